/- EtE, put together. -/
import Derived.Test.YtajmheblbnodjaaGreatDoorQP
namespace Go.Proofs.YtajmheblbnodjaaGreatDoor
open Go.RowKit
namespace Tk

theorem tgRet2 {g : Tg} {a : Bool} {v : Bs} {o p : Bool} (h1 : g = (a, v)) (h2 : o = p) : Ending.returned (.tuple #[.agg #[.bool a, .string (mkS v)], .bool p]) = .returned (.tuple #[tgVal g, .bool o]) := by
  subst h1 h2; rfl
theorem opRet {a b : Int} {o p : Bool} (h1 : a = b) (h2 : o = p) : Ending.returned (.tuple #[.int .i64 a, .bool o]) = .returned (.tuple #[.int .i64 b, .bool p]) := by
  subst h1 h2; rfl
theorem one_not (P : List Bs) (h : P.length ≠ 1) : oneG P = (false, []) ∧ oneO P = false ∧ ∀ now, oneV P now = none := by
  match P, h with
  | [], _ => exact ⟨rfl, rfl, fun _ => rfl⟩
  | _ :: _ :: _, _ => exact ⟨rfl, rfl, fun _ => rfl⟩
theorem one_mem (name : Bs) (l : List (Bs × Bs)) (x : Bs) (h : allF l name = [x]) : x.length ≤ sumF l := all_piece name l x (by rw [h]; simp)

set_option maxHeartbeats 4000000 in
set_option maxRecDepth 100000 in
theorem tagOf_any (v : Value) (l : List (Bs × Bs)) (w : World) (hs : IsFlds w v l) (hz : sumF l ≤ 1000000) (hl : l.length ≤ 1048576) :
    Calls Tryz.prog 104 #[v] w fun e w' => e = .returned (.tuple #[tgVal (oneG (allF l nET)), .bool (oneO (allF l nET))]) ∧ Below w.heap.size w w' := by
  have hb0 : Below w.heap.size w (w.alloc (.cells #[.bool false, .string ⟨#[]⟩] 81)) := (Below.refl _ _).alloc (Nat.le_refl _) _
  have HA := Lib.hid (fall_any v l nET _ (isFlds_below hs hb0) (sum_each l (by omega)) (by decide) hl)
  have hone := one_mem nET l
  unfold ListPost at HA
  obtain ⟨a, cap, rfl⟩ : ∃ a cap, v = .slice a l.length cap := by obtain ⟨a, c, h, -⟩ := hs; exact ⟨a, c, h⟩
  have HT := Lib.hid (Two.new w 81 (.bool false) (.string ⟨#[]⟩))
  have HB0 := Lib.hid hb0
  have hsz : w.heap.size ≤ (w.alloc (.cells #[.bool false, .string ⟨#[]⟩] 81)).heap.size := by simp
  clear hb0 hs
  generalize allF l nET = P at *
  unfold nET mkS at HA
  by_cases hP : P.length = 1
  · obtain ⟨x, rfl⟩ : ∃ x, P = [x] := by
      match P, hP with
      | [x], _ => exact ⟨x, rfl⟩
    have hx := hone x rfl
    have hxz := size_mkS x
    have hC := fun W : World => tparse_any (mkS x) W (by omega)
    rw [bs_mkS] at hC
    unfold TgPost at hC
    have HC := Lib.hid hC
    have HG : Hid (oneG [x] = tgG x ∧ oneO [x] = tgO x) := ⟨rfl, rfl⟩
    have HTN := Lib.hid (fun h => tg_no x h)
    have hE0 : tgO x = true → tgE x = 0 := fun h => by unfold tgE; rw [if_pos h]
    have HE0 := Lib.hid hE0
    clear hone hP hC hE0 hx hxz
    generalize oneG [x] = G at *
    generalize oneO [x] = O at *
    cases hk : tgO x
    · have HQ : Hid (G = (false, []) ∧ O = false) := ⟨HG.out.1.trans (HTN.out hk).1, HG.out.2.trans hk⟩
      rw [(HTN.out hk).1, (HTN.out hk).2] at HC
      unfold tgVal at HC
      clear hk HG HTN HE0
      go_enter Tryz.func104, Tryz.ntmps104
      go_wp2_with fail
      refine HA.out.mono ?_
      rintro e w1 ⟨v1, rfl, ho, hb⟩
      have HT1 := Lib.hid (HT.out.later hb)
      obtain ⟨a', c', rfl, hc⟩ := isStrs_own ho
      obtain ⟨b, o, rfl, hc2⟩ := hc 0 x rfl
      have hc3 : w1.cell? ⟨b, o, none⟩ = some (.string (mkS x)) := hc2
      have HB1 := Lib.hid (HB0.out.trans (hb.mono hsz))
      clear hc hc2 ho hb
      go_wp2_with fail
      refine (HC.out _).mono ?_
      rintro e w2 ⟨rfl, hb⟩
      have HB2 := Lib.hid (HB1.out.trans (hb.mono HB1.out.size))
      have hb3 : Below w2.heap.size w2 (w2.alloc (.cells #[.bool false, .string (mkS [])] 81)) := (Below.refl _ _).alloc (Nat.le_refl _) _
      have hT3 := (HT1.out.later hb).later hb3
      have HB3 := Lib.hid (HB2.out.trans (hb3.mono HB2.out.size))
      have f0 := hT3.f0
      have f1 := hT3.f1
      have c0 := hT3.c0
      have c1 := hT3.c1
      have hput := hT3.put (.bool false) (.string ⟨#[]⟩)
      have q0 := hput.1
      have q1 := hput.2
      clear hput hb hb3 hT3
      go_wp2_with fail
      refine bodyPost_ret (v := .tuple #[.agg #[.bool false, .string (mkS [])], .bool false]) ?_ rfl ⟨tgRet2 HQ.out.1 HQ.out.2, ?_⟩
      · simp [results, Tryz.results104, go_sem, q0, q1]; rfl
      · exact (HB3.out.setCell (p := ⟨w.heap.size, 0, none⟩) (Nat.le_refl _) _).setCell (p := ⟨w.heap.size, 1, none⟩) (Nat.le_refl _) _
    · have HQ : Hid (G = tgG x ∧ O = true) := ⟨HG.out.1, HG.out.2.trans hk⟩
      rw [HE0.out hk] at HC
      clear hk HG HTN HE0
      generalize tgG x = t at *
      obtain ⟨tk, tv⟩ := t
      unfold tgVal at HC
      go_enter Tryz.func104, Tryz.ntmps104
      go_wp2_with fail
      refine HA.out.mono ?_
      rintro e w1 ⟨v1, rfl, ho, hb⟩
      have HT1 := Lib.hid (HT.out.later hb)
      obtain ⟨a', c', rfl, hc⟩ := isStrs_own ho
      obtain ⟨b, o, rfl, hc2⟩ := hc 0 x rfl
      have hc3 : w1.cell? ⟨b, o, none⟩ = some (.string (mkS x)) := hc2
      have HB1 := Lib.hid (HB0.out.trans (hb.mono hsz))
      clear hc hc2 ho hb
      go_wp2_with fail
      refine (HC.out _).mono ?_
      rintro e w2 ⟨rfl, hb⟩
      have HB2 := Lib.hid (HB1.out.trans (hb.mono HB1.out.size))
      have hb3 : Below w2.heap.size w2 (w2.alloc (.cells #[.bool tk, .string (mkS tv)] 81)) := (Below.refl _ _).alloc (Nat.le_refl _) _
      have hT3 := (HT1.out.later hb).later hb3
      have HB3 := Lib.hid (HB2.out.trans (hb3.mono HB2.out.size))
      have f0 := hT3.f0
      have f1 := hT3.f1
      have c0 := hT3.c0
      have c1 := hT3.c1
      have hput := hT3.put (.bool tk) (.string (mkS tv))
      have q0 := hput.1
      have q1 := hput.2
      clear hput hb hb3 hT3
      go_wp2_with fail
      refine bodyPost_ret (v := .tuple #[.agg #[.bool tk, .string (mkS tv)], .bool true]) ?_ rfl ⟨tgRet2 HQ.out.1 HQ.out.2, ?_⟩
      · simp [results, Tryz.results104, go_sem, q0, q1]
      · exact (HB3.out.setCell (p := ⟨w.heap.size, 0, none⟩) (Nat.le_refl _) _).setCell (p := ⟨w.heap.size, 1, none⟩) (Nat.le_refl _) _
  · have HQ := Lib.hid (one_not P hP)
    have hne : ((P.length : Int) == 1) = false := by rw [beq_eq_false_iff_ne]; omega
    have hne2 : ((P.length : Int) != 1) = true := by unfold bne; rw [hne]; rfl
    clear hP hone
    go_enter Tryz.func104, Tryz.ntmps104
    go_wp2_with fail
    refine HA.out.mono ?_
    rintro e w1 ⟨v1, rfl, ho, hb⟩
    obtain ⟨a', c', rfl, hc⟩ := isStrs_own ho
    have hT1 := HT.out.later hb
    have HB1 := Lib.hid (HB0.out.trans (hb.mono hsz))
    have f0 := hT1.f0
    have f1 := hT1.f1
    have c0 := hT1.c0
    have c1 := hT1.c1
    have hput := hT1.put (.bool false) (.string ⟨#[]⟩)
    have q0 := hput.1
    have q1 := hput.2
    clear hput hb hc ho hT1
    go_wp2_with fail
    refine bodyPost_ret (v := .tuple #[.agg #[.bool false, .string (mkS [])], .bool false]) ?_ rfl ⟨tgRet2 HQ.out.1 HQ.out.2.1, ?_⟩
    · simp [results, Tryz.results104, go_sem, q0, q1]; rfl
    · exact (HB1.out.setCell (p := ⟨w.heap.size, 0, none⟩) (Nat.le_refl _) _).setCell (p := ⟨w.heap.size, 1, none⟩) (Nat.le_refl _) _

set_option maxHeartbeats 4000000 in
set_option maxRecDepth 100000 in
theorem timeOf_any (v : Value) (l : List (Bs × Bs)) (name : Bs) (now : Int) (w : World) (hN : NamH w) (hs : IsFlds w v l) (hz : sumF l ≤ 1000000) (hl : l.length ≤ 1048576) (hn : name.length ≤ 1000) :
    Calls Tryz.prog 105 #[v, .string (mkS name), .int .i64 now] w fun e w' => e = .returned (.tuple #[.int .i64 (optV (oneV (allF l name) now)), .bool (oneV (allF l name) now).isSome]) ∧ Below w.heap.size w w' := by
  have HA := Lib.hid (fall_any v l name w hs (sum_each l (by omega)) (by omega) hl)
  have hone := one_mem name l
  unfold ListPost at HA
  obtain ⟨a, cap, rfl⟩ : ∃ a cap, v = .slice a l.length cap := by obtain ⟨a, c, h, -⟩ := hs; exact ⟨a, c, h⟩
  clear hs
  generalize allF l name = P at *
  by_cases hP : P.length = 1
  · obtain ⟨x, rfl⟩ : ∃ x, P = [x] := by
      match P, hP with
      | [x], _ => exact ⟨x, rfl⟩
    have hx := hone x rfl
    have HC : Hid (∀ W : World, Below w.heap.size w W → Calls Tryz.prog 163 #[.string (mkS x), .int .i64 now] W (OptPost (oneV [x] now) W)) := fun W hb => by
      have := parse_any (mkS x) now W (hN.later hb) (by rw [size_mkS]; omega)
      rw [bs_mkS] at this
      exact this
    unfold OptPost at HC
    clear hN hone hP hx
    generalize oneV [x] now = o at *
    cases o with
    | none =>
      go_enter Tryz.func105, Tryz.ntmps105
      go_wp2_with fail
      refine HA.out.mono ?_
      rintro e w1 ⟨v1, rfl, ho, hb⟩
      obtain ⟨a', c', rfl, hc⟩ := isStrs_own ho
      obtain ⟨b, o, rfl, hc2⟩ := hc 0 x rfl
      have hc3 : w1.cell? ⟨b, o, none⟩ = some (.string (mkS x)) := hc2
      have HB1 := Lib.hid hb
      have HC1 : Hid (Calls Tryz.prog 163 #[.string (mkS x), .int .i64 now] w1 fun e w' => e = .returned (.tuple #[.int .i64 0, .int .i64 4]) ∧ Below w1.heap.size w1 w') := HC.out w1 hb
      clear hc hc2 ho hb HC
      go_wp2_with fail
      refine HC1.out.mono ?_
      rintro e w2 ⟨rfl, hb⟩
      have HB2 := Lib.hid (HB1.out.trans (hb.mono HB1.out.size))
      clear hb
      go_wp2_with fail
      go_ret2
      exact ⟨rfl, HB2.out⟩
    | some t =>
      go_enter Tryz.func105, Tryz.ntmps105
      go_wp2_with fail
      refine HA.out.mono ?_
      rintro e w1 ⟨v1, rfl, ho, hb⟩
      obtain ⟨a', c', rfl, hc⟩ := isStrs_own ho
      obtain ⟨b, o, rfl, hc2⟩ := hc 0 x rfl
      have hc3 : w1.cell? ⟨b, o, none⟩ = some (.string (mkS x)) := hc2
      have HB1 := Lib.hid hb
      have HC1 : Hid (Calls Tryz.prog 163 #[.string (mkS x), .int .i64 now] w1 fun e w' => e = .returned (.tuple #[.int .i64 t, .int .i64 0]) ∧ Below w1.heap.size w1 w') := HC.out w1 hb
      clear hc hc2 ho hb HC
      go_wp2_with fail
      refine HC1.out.mono ?_
      rintro e w2 ⟨rfl, hb⟩
      have HB2 := Lib.hid (HB1.out.trans (hb.mono HB1.out.size))
      clear hb
      go_wp2_with fail
      go_ret2
      exact ⟨rfl, HB2.out⟩
  · have HQ := Lib.hid ((one_not P hP).2.2 now)
    have hne : ((P.length : Int) == 1) = false := by rw [beq_eq_false_iff_ne]; omega
    have hne2 : ((P.length : Int) != 1) = true := by unfold bne; rw [hne]; rfl
    clear hP hone hN
    generalize oneV P now = o at *
    go_enter Tryz.func105, Tryz.ntmps105
    go_wp2_with fail
    refine HA.out.mono ?_
    rintro e w1 ⟨v1, rfl, ho, hb⟩
    obtain ⟨a', c', rfl, hc⟩ := isStrs_own ho
    have HB1 := Lib.hid hb
    clear hb hc ho
    go_wp2_with fail
    go_ret2
    exact ⟨opRet (by rw [HQ.out]; rfl) (by rw [HQ.out]; rfl), HB1.out⟩

set_option maxHeartbeats 4000000 in
set_option maxRecDepth 100000 in
/-- Unchanged of any request -/
theorem unch_any (v : Value) (l : List (Bs × Bs)) (c : Ck) (now : Int) (w : World) (hN : NamH w) (hs : IsFlds w v l) (hz : sumF l ≤ 1000000) (hl : l.length ≤ 1048576) :
    Calls Tryz.prog 53 #[v, ckV c, .int .i64 now] w fun e w' => e = .returned (.bool (unB l c now)) ∧ Below w.heap.size w w' := by
  by_cases hp : 0 < (allF l nINM).length
  · unfold unB
    rw [if_pos hp]
    exact unchT_any v l c now w hs hz hl hp
  have hun : unB l c now = sncB (oneV (allF l nIMS) now) c := by unfold unB; rw [if_neg hp]
  have HU := Lib.hid hun
  have hb0 : Below w.heap.size w (w.alloc (.cells (ckA c) 89)) := (Below.refl _ _).alloc (Nat.le_refl _) _
  have hBx := Bx.new w 89 (ckA c)
  have HA := Lib.hid (fall_any v l nINM _ (isFlds_below hs hb0) (sum_each l (by omega)) (by decide) hl)
  unfold ListPost at HA
  have HTm : Hid (∀ W : World, Below w.heap.size w W → Calls Tryz.prog 105 #[v, .string (mkS nIMS), .int .i64 now] W fun e w' => e = .returned (.tuple #[.int .i64 (optV (oneV (allF l nIMS) now)), .bool (oneV (allF l nIMS) now).isSome]) ∧ Below W.heap.size W w') :=
    fun W hb => timeOf_any v l nIMS now W (hN.later hb) (isFlds_below hs hb) hz hl (by decide)
  obtain ⟨a, cap, rfl⟩ : ∃ a cap, v = .slice a l.length cap := by obtain ⟨a, c, h, -⟩ := hs; exact ⟨a, c, h⟩
  have HB0 := Lib.hid hb0
  have HBx := Lib.hid hBx
  have hsz : w.heap.size ≤ (w.alloc (.cells (ckA c) 89)).heap.size := by simp
  have hP : ¬ (0 : Int) < ((allF l nINM).length : Int) := by omega
  clear hb0 hBx hs hN hun hp
  generalize allF l nINM = P at *
  generalize unB l c now = q at *
  generalize oneV (allF l nIMS) now = o at *
  unfold nINM mkS at HA
  unfold nIMS mkS at HTm
  obtain ⟨cw, cv, ch, ca, cb⟩ := c
  unfold ckV ckA at *
  simp only at *
  cases o with
  | none =>
    have HQ : Hid (q = false) := HU.out
    clear HU
    go_enter Tryz.func53, Tryz.ntmps53
    go_wp2_with fail
    refine HA.out.mono ?_
    rintro e w1 ⟨v1, rfl, ho, hb⟩
    obtain ⟨a1, c1, rfl⟩ : ∃ a c, v1 = .slice a P.length c := by obtain ⟨a, c, h, -⟩ := isStrs_own ho; exact ⟨a, c, h⟩
    have HB1 := Lib.hid (HB0.out.trans (hb.mono hsz))
    have HT1 : Hid (Calls Tryz.prog 105 #[.slice a l.length cap, .string ⟨#[73, 102, 45, 77, 111, 100, 105, 102, 105, 101, 100, 45, 83, 105, 110, 99, 101]⟩, .int .i64 now] w1 fun e w' => e = .returned (.tuple #[.int .i64 0, .bool false]) ∧ Below w1.heap.size w1 w') := HTm.out w1 HB1.out
    clear hb ho HTm
    go_wp2_with fail
    refine HT1.out.mono ?_
    rintro e w2 ⟨rfl, hb⟩
    have HB2 := Lib.hid (HB1.out.trans (hb.mono HB1.out.size))
    clear hb
    go_wp2_with fail
    go_ret
    exact ⟨by rw [HQ.out]; rfl, HB2.out⟩
  | some t =>
    have HQ : Hid (q = (cb && decide (ca ≤ t))) := HU.out
    clear HU
    cases cb
    · go_enter Tryz.func53, Tryz.ntmps53
      go_wp2_with fail
      refine HA.out.mono ?_
      rintro e w1 ⟨v1, rfl, ho, hb⟩
      obtain ⟨a1, c1, rfl⟩ : ∃ a c, v1 = .slice a P.length c := by obtain ⟨a, c, h, -⟩ := isStrs_own ho; exact ⟨a, c, h⟩
      have HB1 := Lib.hid (HB0.out.trans (hb.mono hsz))
      have HX1 := Lib.hid (HBx.out.later hb)
      have HT1 : Hid (Calls Tryz.prog 105 #[.slice a l.length cap, .string ⟨#[73, 102, 45, 77, 111, 100, 105, 102, 105, 101, 100, 45, 83, 105, 110, 99, 101]⟩, .int .i64 now] w1 fun e w' => e = .returned (.tuple #[.int .i64 t, .bool true]) ∧ Below w1.heap.size w1 w') := HTm.out w1 HB1.out
      clear hb ho HTm
      go_wp2_with fail
      refine HT1.out.mono ?_
      rintro e w2 ⟨rfl, hb⟩
      have HB2 := Lib.hid (HB1.out.trans (hb.mono HB1.out.size))
      have hX2 := HX1.out.later hb
      have c4 := hX2.cell 4 _ rfl
      have c3 := hX2.cell 3 _ rfl
      clear hb hX2
      go_wp2_with fail
      go_ret
      exact ⟨by rw [HQ.out]; rfl, HB2.out⟩
    · go_enter Tryz.func53, Tryz.ntmps53
      go_wp2_with fail
      refine HA.out.mono ?_
      rintro e w1 ⟨v1, rfl, ho, hb⟩
      obtain ⟨a1, c1, rfl⟩ : ∃ a c, v1 = .slice a P.length c := by obtain ⟨a, c, h, -⟩ := isStrs_own ho; exact ⟨a, c, h⟩
      have HB1 := Lib.hid (HB0.out.trans (hb.mono hsz))
      have HX1 := Lib.hid (HBx.out.later hb)
      have HT1 : Hid (Calls Tryz.prog 105 #[.slice a l.length cap, .string ⟨#[73, 102, 45, 77, 111, 100, 105, 102, 105, 101, 100, 45, 83, 105, 110, 99, 101]⟩, .int .i64 now] w1 fun e w' => e = .returned (.tuple #[.int .i64 t, .bool true]) ∧ Below w1.heap.size w1 w') := HTm.out w1 HB1.out
      clear hb ho HTm
      go_wp2_with fail
      refine HT1.out.mono ?_
      rintro e w2 ⟨rfl, hb⟩
      have HB2 := Lib.hid (HB1.out.trans (hb.mono HB1.out.size))
      have hX2 := HX1.out.later hb
      have c4 := hX2.cell 4 _ rfl
      have c3 := hX2.cell 3 _ rfl
      clear hb hX2
      go_wp2_with fail
      go_ret
      exact ⟨by rw [HQ.out]; rfl, HB2.out⟩
end Tk
end Go.Proofs.YtajmheblbnodjaaGreatDoor
