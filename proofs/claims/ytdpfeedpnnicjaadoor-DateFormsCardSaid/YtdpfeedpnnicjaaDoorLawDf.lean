/- DateForms: the law. -/
import Derived.Test.YtdpfeedpnnicjaaDoorDtN
import Derived.Deep.Cut
namespace Go.Proofs.YtdpfeedpnnicjaaDoor
open Go.RowKit
namespace Tk

theorem late_near {c n : Int} (h : n / 100 = c / 100) (h1 : c ≤ n + 50) (h2 : 1970 ≤ c) : c = lateY (c % 100) n := by
  unfold lateY
  have e : n - n % 100 + c % 100 = c := by omega
  rw [e, if_neg (show ¬ n + 50 < c by omega), if_neg (show ¬ c < 1970 by omega)]

theorem byte0 (X : ByteArray) (l : Bs) (h : X = mkS l) (hx : 0 < X.size) : (X[0]'hx) = l.getD 0 0 := by
  rw [← getD_bs X 0 hx, h, bs_mkS]

theorem fC_forms (a : Cv) (S D : ByteArray) (hr : Rg a) (hS : mkS (fA a) = S) (hD : D = mkS (dC a.d)) : S.extract 0 3 ++ ⟨#[32]⟩ ++ S.extract 8 11 ++ ⟨#[32]⟩ ++ D ++ ⟨#[32]⟩ ++ S.extract 17 25 ++ ⟨#[32]⟩ ++ S.extract 12 16 = mkS (fC a) := by
  obtain ⟨-, l2, l3, -, l5⟩ := fA_parts hr
  have l0 : ((fA a).drop 0).take 3 = (dnm a.w).take 3 := by
    obtain ⟨x, y, z, hw, -⟩ := dnm_three a.w hr.w
    unfold fA; rw [hw]; rfl
  subst hS hD
  rw [extract_mkS, extract_mkS, extract_mkS, extract_mkS, bs_mkS]
  show mkS (((fA a).drop 0).take 3) ++ _ ++ mkS (((fA a).drop 8).take 3) ++ _ ++ _ ++ _ ++ mkS (((fA a).drop 17).take 8) ++ _ ++ mkS (((fA a).drop 12).take 4) = _
  rw [l0, l2, l3, l5, show (⟨#[32]⟩ : ByteArray) = mkS [32] from rfl]
  simp only [mkS_append]; rfl
theorem fB_forms (a : Cv) (S N : ByteArray) (hr : Rg a) (hS : mkS (fA a) = S) (hN : N = mkS (dnm a.w)) : N ++ ⟨#[44, 32]⟩ ++ S.extract 5 7 ++ ⟨#[45]⟩ ++ S.extract 8 11 ++ ⟨#[45]⟩ ++ S.extract 14 16 ++ ⟨#[32]⟩ ++ S.extract 17 25 ++ ⟨#[32, 71, 77, 84]⟩ = mkS (fB a) := by
  obtain ⟨-, -, l3, l4, l5⟩ := fA_parts hr
  have l0 : ((fA a).drop 14).take 2 = two (a.y % 100) := by
    obtain ⟨x, y, z, hw, -⟩ := dnm_three a.w hr.w
    obtain ⟨p, q, r, hm, -⟩ := mnm_three a.m hr.m
    unfold fA; rw [hw, hm]; rfl
  subst hS hN
  rw [extract_mkS, extract_mkS, extract_mkS, extract_mkS, bs_mkS]
  show _ ++ _ ++ mkS (((fA a).drop 5).take 2) ++ _ ++ mkS (((fA a).drop 8).take 3) ++ _ ++ mkS (((fA a).drop 14).take 2) ++ _ ++ mkS (((fA a).drop 17).take 8) ++ _ = _
  rw [l0, l3, l4, l5, show (⟨#[32]⟩ : ByteArray) = mkS [32] from rfl, show (⟨#[45]⟩ : ByteArray) = mkS [45] from rfl, show (⟨#[44, 32]⟩ : ByteArray) = mkS [44, 32] from rfl, show (⟨#[32, 71, 77, 84]⟩ : ByteArray) = mkS gmt from rfl]
  simp only [mkS_append]; rfl
theorem day_small (a : Cv) (S : ByteArray) (hr : Rg a) (hS : mkS (fA a) = S) (hd : a.d < 10) : ⟨#[32]⟩ ++ (S.extract 5 7).extract 1 2 = mkS (dC a.d) := by
  have l4 := (fA_parts hr).2.2.2.1
  have rd := hr.d
  subst hS
  have e5 : (mkS (fA a)).extract 5 7 = mkS (two a.d) := by rw [extract_mkS, bs_mkS]; exact congrArg mkS l4
  rw [e5, extract_mkS, bs_mkS, show (⟨#[32]⟩ : ByteArray) = mkS [32] from rfl, mkS_append]
  unfold dC two
  rw [if_pos hd, show a.d % 10 = a.d by omega]; rfl
theorem day_big (a : Cv) (S : ByteArray) (hr : Rg a) (hS : mkS (fA a) = S) (hd : ¬ a.d < 10) : S.extract 5 7 = mkS (dC a.d) := by
  have l4 := (fA_parts hr).2.2.2.1
  subst hS
  unfold dC
  rw [if_neg hd, extract_mkS, bs_mkS]; exact congrArg mkS l4
theorem names_cell (W : World) (T : TypeId) (k : Int) (h : 0 ≤ k ∧ k ≤ 6) (N : Array Value) (hN : N = (dN.map fun l => Value.string (mkS l)).toArray) (g : Nat) (hg : W.heap[g]? = some (.cells N T (0, 0))) : W.cell? ⟨g, k.toNat, none⟩ = some (.string (mkS (dnm k))) := by
  subst hN
  rw [Lib.cell_of_heap hg]
  have : k = 0 ∨ k = 1 ∨ k = 2 ∨ k = 3 ∨ k = 4 ∨ k = 5 ∨ k = 6 := by omega
  rcases this with rfl | rfl | rfl | rfl | rfl | rfl | rfl <;> rfl

set_option maxHeartbeats 40000000 in
set_option maxRecDepth 100000 in
theorem forms_in (t far : Int) (w : World) (hN : NamH w) (h0 : 0 ≤ t) (h1 : t ≤ 253402300799) :
    Calls Tryd.prog 7 #[.int .i64 t, .int .i64 far] w fun e w' => e = .returned (.bool true) ∧ Below w.heap.size w w' := by
  have k0 : okT t = true := (okT_iff t).2 ⟨h0, by unfold maxT; omega⟩
  have hle : t ≤ maxT := ((okT_iff t).1 k0).2
  have HL := Lib.hid (lives9_any w hN)
  have hF := fun W (hb : Below w.heap.size w W) => format_any t W (by omega) (hN.later hb)
  unfold FmtPost at hF
  rw [show fmtL t = fA (civ t) by unfold fmtL; rw [if_pos k0], (civX_ok k0).2] at hF
  have HF := Lib.hid hF
  have HA := Lib.hid (fun W => civ_box t W k0)
  have hr := civ_rg h0 hle
  have rw0 := hr.w; have rd := hr.d
  have hsz : (mkS (fA (civ t))).size = 29 := by rw [size_mkS]; exact (fA_parts hr).1
  have HPR : Hid (∀ (X : ByteArray) (now : Int) (W : World), Below w.heap.size w W → X.size ≤ 1000000 → Calls Tryd.prog 9 #[.string X, .int .i64 now] W (OptPost (pP (bs X) (yNow now)) W)) := fun X now W hb hX => parse_any X now W (hN.later hb) hX
  unfold OptPost at HPR
  have hsC : ∀ y, pP (fC (civ t)) y = some t := fun y => says_pP ⟨h0, hle, .inr (.inl rfl)⟩
  have HPC := Lib.hid (show pP (fC (civ t)) (yNow 0) = some t ∧ (fC (civ t)).length = 24 from ⟨hsC _, (fC_parts hr).1⟩)
  have HPB := Lib.hid (show ∀ y, (civ t).y = lateY ((civ t).y % 100) y → pP (fB (civ t)) y = some t from fun y hy => says_pP ⟨h0, hle, .inr (.inr ⟨rfl, hy⟩)⟩)
  have HPBl := Lib.hid (fB_len hr)
  have hry := hr.y
  clear k0 hF hN hsC
  generalize civ t = a at *
  generalize hS : mkS (fA a) = S at *
  obtain ⟨a0, a1, a2, a3, a4, a5, a6⟩ := a
  dsimp only at rw0 rd hry HPB
  have HNew := Lib.hid (fun (w : World) (c : Cv) => CvB.new w c)
  have HCn := Lib.hid (fun (W : World) (g : Nat) (c : Cv) (h : CvB W g c) => CvB.cells h)
  have HLt := Lib.hid (fun (W : World) (g : Nat) (c : Cv) (h : CvB W g c) => CvB.lt h)
  unfold cvV at HA
  unfold cvC at HNew
  have c29 : ((S.size : Int) == 29) = true := by rw [hsz]; rfl
  go_enter Tryd.func7, Tryd.ntmps7
  go_wp2_with fail
  refine HL.out.mono ?_
  rintro e w1 ⟨rfl, hb⟩
  have HB1 := Lib.hid hb
  have HF1 := Lib.hid (HF.out w1 hb)
  clear hb HL HF
  go_wp2_with fail
  refine HF1.out.mono ?_
  rintro e w2 ⟨rfl, hb⟩
  have HB2 := Lib.hid (HB1.out.trans (hb.mono HB1.out.size))
  clear hb HB1 HF1
  go_wp2_with fail
  refine (HA.out _).mono ?_
  rintro e w3 ⟨rfl, hb⟩
  have GA := HNew.out w3 ⟨a0, a1, a2, a3, a4, a5, a6⟩
  have HGA := Lib.hid GA
  have HB3 := Lib.hid ((HB2.out.trans (hb.mono HB2.out.size)).alloc (HB2.out.trans (hb.mono HB2.out.size)).size (.cells #[.int .i64 a0, .int .i64 a1, .int .i64 a2, .int .i64 a3, .int .i64 a4, .int .i64 a5, .int .i64 a6] 29))
  obtain ⟨p0, p1, p2, p3, p4, p5, p6⟩ := HCn.out _ _ _ GA
  dsimp only at p0 p1 p2 p3 p4 p5 p6
  clear hb HB2 HA GA HNew p1 p2 p3 p4 p5
  go_upto_region 7 with (fail)
  generalize w3.alloc (.cells #[.int .i64 a0, .int .i64 a1, .int .i64 a2, .int .i64 a3, .int .i64 a4, .int .i64 a5, .int .i64 a6] 29) = W3 at *
  generalize w3.heap.size = g3 at *
  have x1 : ¬ a6 < 0 := by omega
  have x2 : ¬ 6 < a6 := by omega
  have hx5 : 0 < (S.extract 5 7).size := by rw [ByteArray.size_extract]; omega
  have hb0 := byte0 (S.extract 5 7) (two a2) (by rw [← hS, extract_mkS, bs_mkS]; exact congrArg mkS (fA_parts hr).2.2.2.1) hx5
  have HDs := Lib.hid (fun h => day_small ⟨a0, a1, a2, a3, a4, a5, a6⟩ S hr hS h)
  have HDb := Lib.hid (fun h => day_big ⟨a0, a1, a2, a3, a4, a5, a6⟩ S hr hS h)
  have e48 : ∃ b, ((((S.extract 5 7)[0]'hx5).toNat : Int) == 48) = b ∧ ((b = true ∧ Hid (⟨#[32]⟩ ++ (S.extract 5 7).extract 1 2 = mkS (dC a2))) ∨ (b = false ∧ Hid (S.extract 5 7 = mkS (dC a2)))) := by
    by_cases hd : a2 < 10
    · refine ⟨true, ?_, .inl ⟨rfl, HDs.out hd⟩⟩
      rw [hb0]; show ((d1 (a2 / 10)).toNat : Int) == 48; rw [show a2 / 10 = 0 by omega]; rfl
    · refine ⟨false, ?_, .inr ⟨rfl, HDb.out hd⟩⟩
      rw [hb0, beq_eq_false_iff_ne]; show ((d1 (a2 / 10)).toNat : Int) ≠ 48; rw [d1_nat _ (by omega)]; omega
  obtain ⟨b48, e48, hb48⟩ := e48
  have HEc := Lib.hid (fun D hD => fC_forms ⟨a0, a1, a2, a3, a4, a5, a6⟩ S D hr hS hD)
  have HEb := Lib.hid (fun N hN => fB_forms ⟨a0, a1, a2, a3, a4, a5, a6⟩ S N hr hS hN)
  have hlt3 := HLt.out _ _ _ HGA.out
  have HPc : Hid (∀ X W, Below W3.heap.size W3 W → X = mkS (fC ⟨a0, a1, a2, a3, a4, a5, a6⟩) → Calls Tryd.prog 9 #[.string X, .int .i64 0] W fun e w' => e = .returned (.tuple #[.int .i64 t, .int .i64 0]) ∧ Below W3.heap.size W3 w') := by
    intro X W hb hX
    obtain ⟨hp, hpb⟩ := HPC.out
    refine (HPR.out X 0 W (HB3.out.trans (hb.mono HB3.out.size)) (by rw [hX, size_mkS]; omega)).mono ?_
    rintro e w' ⟨he, hb2⟩
    rw [hX, bs_mkS, hp] at he
    exact ⟨he, hb.trans (hb2.mono hb.size)⟩
  have zD : (mkS (dC a2)).size = 2 := by obtain ⟨x, y, h⟩ := dC_two a2; rw [size_mkS, h]; rfl
  have zn := dnm_len a6 rw0
  have jb : Below W3.heap.size W3 W3.drew := (Below.refl _ _).drew
  clear hb0 HDs HDb hr
  rcases hb48 with ⟨rfl, HD⟩ | ⟨rfl, HD⟩
  all_goals
    go_upto_region 12 with (fail)
    generalize ((S.extract 5 7)[0]'hx5) = z0 at *
    rw [HD.out]
    generalize mkS (dC a2) = D at *
    have HE := Lib.hid (HEc.out D rfl)
    clear e48 HD hx5
    go_region_held3 (fun w' => Below W3.heap.size W3 w') (first | assumption) (first
      | (go_at_call 9; refine (HPc.out _ _ (by assumption) HE.out).mono ?_; rintro e w' ⟨rfl, kb⟩))
    all_goals
      have q0 := (Below.cell kb (p := ⟨g3, 0, none⟩) hlt3).trans p0
      have q6 := (Below.cell kb (p := ⟨g3, 6, none⟩) hlt3).trans p6
      have hs5 := kb.size
      have HB4 := Lib.hid (HB3.out.trans (kb.mono HB3.out.size))
      have hg5 := heap_alloc_last w' (.cells #[.string ⟨#[83, 117, 110, 100, 97, 121]⟩, .string ⟨#[77, 111, 110, 100, 97, 121]⟩, .string ⟨#[84, 117, 101, 115, 100, 97, 121]⟩, .string ⟨#[87, 101, 100, 110, 101, 115, 100, 97, 121]⟩, .string ⟨#[84, 104, 117, 114, 115, 100, 97, 121]⟩, .string ⟨#[70, 114, 105, 100, 97, 121]⟩, .string ⟨#[83, 97, 116, 117, 114, 100, 97, 121]⟩] 9)
      have nc := names_cell _ _ a6 rw0 _ rfl _ hg5
      have hlt5 : w'.heap.size < (w'.alloc (.cells #[.string ⟨#[83, 117, 110, 100, 97, 121]⟩, .string ⟨#[77, 111, 110, 100, 97, 121]⟩, .string ⟨#[84, 117, 101, 115, 100, 97, 121]⟩, .string ⟨#[87, 101, 100, 110, 101, 115, 100, 97, 121]⟩, .string ⟨#[84, 104, 117, 114, 115, 100, 97, 121]⟩, .string ⟨#[70, 114, 105, 100, 97, 121]⟩, .string ⟨#[83, 97, 116, 117, 114, 100, 97, 121]⟩] 9)).heap.size := (Array.getElem?_eq_some_iff.1 hg5).1
      have ab : Below w'.heap.size w' (w'.alloc (.cells #[.string ⟨#[83, 117, 110, 100, 97, 121]⟩, .string ⟨#[77, 111, 110, 100, 97, 121]⟩, .string ⟨#[84, 117, 101, 115, 100, 97, 121]⟩, .string ⟨#[87, 101, 100, 110, 101, 115, 100, 97, 121]⟩, .string ⟨#[84, 104, 117, 114, 115, 100, 97, 121]⟩, .string ⟨#[70, 114, 105, 100, 97, 121]⟩, .string ⟨#[83, 97, 116, 117, 114, 100, 97, 121]⟩] 9)) := (Below.refl _ _).alloc (Nat.le_refl _) _
      have m0 := (Below.cell ab (p := ⟨g3, 0, none⟩) (by show g3 < _; omega)).trans q0
      have m6 := (Below.cell ab (p := ⟨g3, 6, none⟩) (by show g3 < _; omega)).trans q6
      have hlt6 : g3 < (w'.alloc (.cells #[.string ⟨#[83, 117, 110, 100, 97, 121]⟩, .string ⟨#[77, 111, 110, 100, 97, 121]⟩, .string ⟨#[84, 117, 101, 115, 100, 97, 121]⟩, .string ⟨#[87, 101, 100, 110, 101, 115, 100, 97, 121]⟩, .string ⟨#[84, 104, 117, 114, 115, 100, 97, 121]⟩, .string ⟨#[70, 114, 105, 100, 97, 121]⟩, .string ⟨#[83, 97, 116, 117, 114, 100, 97, 121]⟩] 9)).heap.size := by have := ab.size; omega
      have HB5 := Lib.hid (HB4.out.trans (ab.mono HB4.out.size))
      clear p0 p6 HPc HE kb jb hg5 ab q0 q6 HB4
      go_wp2_with fail
      generalize wrap64 (t + far.tmod 1261440000) = nw at *
      generalize w'.alloc (.cells #[.string ⟨#[83, 117, 110, 100, 97, 121]⟩, .string ⟨#[77, 111, 110, 100, 97, 121]⟩, .string ⟨#[84, 117, 101, 115, 100, 97, 121]⟩, .string ⟨#[87, 101, 100, 110, 101, 115, 100, 97, 121]⟩, .string ⟨#[84, 104, 117, 114, 115, 100, 97, 121]⟩, .string ⟨#[70, 114, 105, 100, 97, 121]⟩, .string ⟨#[83, 97, 116, 117, 114, 100, 97, 121]⟩] 9) = W5 at *
      generalize w'.heap.size = g5 at *
      have HPb : Hid (∀ X W, Below W5.heap.size W5 W → X = mkS (fB ⟨a0, a1, a2, a3, a4, a5, a6⟩) → Calls Tryd.prog 9 #[.string X, .int .i64 nw] W fun e w' => e = .returned (.tuple #[.int .i64 (optV (pP (fB ⟨a0, a1, a2, a3, a4, a5, a6⟩) (yNow nw))), .int .i64 (optE (pP (fB ⟨a0, a1, a2, a3, a4, a5, a6⟩) (yNow nw)))]) ∧ Below W5.heap.size W5 w') := by
        intro X W hb hX
        refine (HPR.out X nw W (HB5.out.trans (hb.mono HB5.out.size)) (by have := HPBl.out; rw [hX, size_mkS]; omega)).mono ?_
        rintro e w' ⟨he, hb2⟩
        rw [hX, bs_mkS] at he
        exact ⟨he, hb.trans (hb2.mono hb.size)⟩
      have hnear : (yNow nw / 100 = a0 / 100 ∧ a0 ≤ yNow nw + 50 ∧ pP (fB ⟨a0, a1, a2, a3, a4, a5, a6⟩) (yNow nw) = some t) ∨ (yNow nw / 100 = a0 / 100 ∧ ¬ a0 ≤ yNow nw + 50) ∨ ¬ yNow nw / 100 = a0 / 100 := by
        by_cases y1 : yNow nw / 100 = a0 / 100
        · by_cases y2 : a0 ≤ yNow nw + 50
          · exact .inl ⟨y1, y2, HPB.out _ (late_near y1 y2 hry.1)⟩
          · exact .inr (.inl ⟨y1, y2⟩)
        · exact .inr (.inr y1)
      have hyn := yNow_rg nw
      have HCv := Lib.hid (fun W => civ_box (clampT nw) W (clampT_ok nw))
      have hyE : (civ (clampT nw)).y = yNow nw := rfl
      generalize civ (clampT nw) = n at *
      obtain ⟨n0, n1, n2, n3, n4, n5, n6⟩ := n
      dsimp only at hyE
      rw [← hyE] at hnear hyn HPb
      unfold clampT cvV at HCv
      have HNear := Lib.hid hnear
      clear hnear hyE
      generalize pP (fB ⟨a0, a1, a2, a3, a4, a5, a6⟩) n0 = oB at *
      generalize hND : mkS (dnm a6) = ND at *
      have HEB := Lib.hid (HEb.out ND rfl)
      have zn2 : ND.size = 6 ∨ ND.size = 7 ∨ ND.size = 8 ∨ ND.size = 9 := by rw [← hND, size_mkS]; omega
      have i0 : W5.drew.cell? ⟨g3, 0, none⟩ = some (.int .i64 a0) := m0
      have i6 : W5.drew.cell? ⟨g3, 6, none⟩ = some (.int .i64 a6) := m6
      have ic : W5.drew.cell? ⟨g5, a6.toNat, none⟩ = some (.string ND) := nc
      have ib : Below W5.heap.size W5 W5.drew := (Below.refl _ _).drew
      have u0 : (0 : Int) ≤ a6 := by omega
      have u1 : a6 < 7 := by omega
      have HPb2 : Hid (∀ X W, (W.cell? ⟨g3, 6, none⟩ = some (.int .i64 a6) ∧ W.cell? ⟨g5, a6.toNat, none⟩ = some (.string ND) ∧ Below W5.heap.size W5 W) → X = mkS (fB ⟨a0, a1, a2, a3, a4, a5, a6⟩) → Calls Tryd.prog 9 #[.string X, .int .i64 nw] W fun e w' => e = .returned (.tuple #[.int .i64 (optV oB), .int .i64 (optE oB)]) ∧ w'.cell? ⟨g3, 6, none⟩ = some (.int .i64 a6) ∧ w'.cell? ⟨g5, a6.toNat, none⟩ = some (.string ND) ∧ Below W5.heap.size W5 w') := by
        rintro X W ⟨-, -, hb⟩ hX
        refine (HPb.out X W hb hX).mono ?_
        rintro e w' ⟨he, hb2⟩
        exact ⟨he, (Below.cell hb2 (p := ⟨g3, 6, none⟩) hlt6).trans m6, (Below.cell hb2 (p := ⟨g5, a6.toNat, none⟩) hlt5).trans nc, hb2⟩
      clear hND HPb HPR HPB HPBl HPC zn HEc HEb rw0
      rcases zn2 with zn2 | zn2 | zn2 | zn2
      all_goals
        go_region_held3 (fun w' => w'.cell? ⟨g3, 6, none⟩ = some (.int .i64 a6) ∧ w'.cell? ⟨g5, a6.toNat, none⟩ = some (.string ND) ∧ Below W5.heap.size W5 w') (first | (refine ⟨?_, ?_, ?_⟩ <;> assumption)) (first
          | (go_at_call 9; refine (HPb2.out _ _ ⟨by assumption, by assumption, by assumption⟩ HEB.out).mono ?_; rintro e w' ⟨rfl, k6, kn, kb⟩))
        all_goals
          have q0 := (Below.cell kb (p := ⟨g3, 0, none⟩) hlt6).trans m0
          have HB6 := Lib.hid (HB5.out.trans (kb.mono HB5.out.size))
          have hls := kb.size
          clear i0 i6 ic ib HPb2 kb m0 m6 nc k6 kn
          go_wp2_with fail
          refine (HCv.out _).mono ?_
          rintro e w8 ⟨rfl, hb⟩
          have ab : Below w'.heap.size w' (w8.alloc (.cells #[.int .i64 n0, .int .i64 n1, .int .i64 n2, .int .i64 n3, .int .i64 n4, .int .i64 n5, .int .i64 n6] 29)) := hb.alloc hb.size _
          have q9 := (Below.cell ab (p := ⟨g3, 0, none⟩) (by show g3 < _; omega)).trans q0
          have HB9 := Lib.hid (HB6.out.trans (ab.mono HB6.out.size))
          clear hb ab q0 HB6 HB5 HCv hlt3 hlt5 hlt6 hls hs5 hS hsz c29 HCn HGA HB3
          rcases HNear.out with ⟨y1, y2, y3⟩ | ⟨y1, y2⟩ | y1
          · have z1 : optV oB = t := by rw [y3]; rfl
            have z2 : optE oB = 0 := by rw [y3]; rfl
            have e1 : (n0 / 100 == a0 / 100) = true := beq_iff_eq.2 y1
            clear HNear y3 y1
            generalize optV oB = bV at *
            generalize optE oB = bE at *
            subst z1 z2
            go_wp2_with fail
            go_ret
            exact ⟨retBd (by simp), HB9.out⟩
          · have e1 : (n0 / 100 == a0 / 100) = true := beq_iff_eq.2 y1
            clear HNear y1
            go_wp2_with fail
            go_ret
            exact ⟨retBd (by simp), HB9.out⟩
          · have e1 : (n0 / 100 == a0 / 100) = false := beq_eq_false_iff_ne.2 y1
            clear HNear y1
            go_wp2_with fail
            go_ret
            exact ⟨retBd (by simp), HB9.out⟩

set_option maxHeartbeats 4000000 in
set_option maxRecDepth 100000 in
theorem forms_any (t far : Int) (w : World) (hN : NamH w) :
    Calls Tryd.prog 7 #[.int .i64 t, .int .i64 far] w fun e w' => e = .returned (.bool true) ∧ Below w.heap.size w w' := by
  by_cases hk : 0 ≤ t ∧ t ≤ 253402300799
  · exact forms_in t far w hN hk.1 hk.2
  have HL := Lib.hid (lives9_any w hN)
  clear hN
  by_cases h0 : t < 0
  · clear hk
    go_enter Tryd.func7, Tryd.ntmps7
    go_wp2_with fail
    refine HL.out.mono ?_
    rintro e w1 ⟨rfl, hb⟩
    have HB1 := Lib.hid hb
    clear hb HL
    go_wp2_with fail
    go_ret
    exact ⟨rfl, HB1.out⟩
  · have h1 : 253402300799 < t := by omega
    clear hk
    go_enter Tryd.func7, Tryd.ntmps7
    go_wp2_with fail
    refine HL.out.mono ?_
    rintro e w1 ⟨rfl, hb⟩
    have HB1 := Lib.hid hb
    clear hb HL
    go_wp2_with fail
    go_ret
    exact ⟨rfl, HB1.out⟩
end Tk
end Go.Proofs.YtdpfeedpnnicjaaDoor
