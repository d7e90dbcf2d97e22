/- The law FieldBack: its walk. -/
import Derived.Test.YtogdmhgblceddaaDoorFldN
namespace Go.Proofs.YtogdmhgblceddaaDoor
open Go.RowKit
namespace Tk

theorem yes2_draws {w w1 : World} (h : Below w.heap.size w w1) (n : Nat) : Below w.heap.size w (w1.drewN n) := h.trans ⟨rfl, rfl, rfl, Nat.le_refl _, fun _ _ => rfl⟩

set_option maxRecDepth 100000 in
set_option maxHeartbeats 2000000 in
theorem fback_big (v : Value) (l : List (Bs × Bs)) (s : ByteArray) (w : World) (hs : IsFlds w v l) (hz : ∀ f ∈ l, f.1.length ≤ 140737488351232 ∧ f.2.length ≤ 140737488351232) (hl : l.length ≤ 140737488351232) (hb : lightF l = false ∨ (lightF l = true ∧ 300 < s.size)) :
    Calls Tryd.prog 10 #[v, .string s] w (Yes2 w) := by
  have HL := Lib.hid (lives02_any w)
  have HB := Lib.hid (fun (W : World) (h : Below w.heap.size w W) => light02_any v l W (isFlds_below hs h) hz hl)
  obtain ⟨a, cap, rfl⟩ : ∃ a cap, v = .slice a l.length cap := by obtain ⟨a, c, h, -⟩ := hs; exact ⟨a, c, h⟩
  clear hs hz
  rcases hb with hb | ⟨hb, h3⟩
  · rw [hb] at HB
    clear hb
    go_enter Tryd.func10, Tryd.ntmps10
    go_wp2_with fail
    refine HL.out.mono ?_
    rintro e w1 ⟨rfl, hb⟩
    have HB1 := Lib.hid hb
    clear hb
    go_wp2_with fail
    refine (HB.out _ HB1.out).mono ?_
    rintro e w2 ⟨rfl, n, rfl⟩
    go_wp2_with fail
    go_ret
    exact ⟨rfl, yes2_draws HB1.out n⟩
  · rw [hb] at HB
    have h3' : (300 : Int) < (s.size : Int) := by omega
    clear hb
    go_enter Tryd.func10, Tryd.ntmps10
    go_wp2_with fail
    refine HL.out.mono ?_
    rintro e w1 ⟨rfl, hb⟩
    have HB1 := Lib.hid hb
    clear hb
    go_wp2_with fail
    refine (HB.out _ HB1.out).mono ?_
    rintro e w2 ⟨rfl, n, rfl⟩
    go_wp2_with fail
    go_ret
    exact ⟨rfl, yes2_draws HB1.out n⟩

theorem isFlds_one {w : World} {b o c : Nat} {n x : Bs} (hc : 1 ≤ c) (h0 : w.cell? ⟨b, o, none⟩ = some (.string (mkS n))) (h1 : w.cell? ⟨b, o + 1, none⟩ = some (.string (mkS x))) : IsFlds w (.slice (some ⟨b, o, none⟩) 1 c) [(n, x)] := by
  refine ⟨_, c, rfl, hc, fun j f hj => ⟨b, o, rfl, ?_⟩⟩
  match j, hj with
  | 0, hj => simp at hj; subst hj; exact ⟨by simpa using h0, by simpa using h1⟩

theorem by_one_ok (n x : Bs) (h : okF n x = true) : byN [(n, x)] = (n ++ [58, 32] ++ x) ++ [13, 10] ∧ byE [(n, x)] = 0 := by
  have e : okFs [(n, x)] = true := by unfold okFs; simp [h]
  unfold byN byE
  rw [e]
  exact ⟨by simp [linesF, bytesF], rfl⟩
theorem by_one_no (n x : Bs) (h : okF n x = false) : byN [(n, x)] = [] ∧ byE [(n, x)] = 4 := by
  have e : okFs [(n, x)] = false := by unfold okFs; simp [h]
  unfold byN byE
  rw [e]
  exact ⟨rfl, rfl⟩
theorem sum_one (n x : Bs) : sumF [(n, x)] = n.length + x.length + 4 := by simp [sumF]

/-- the line of a field, its end cut off, is read as the field -/
theorem ln_of (n x : Bs) (h : okF n x = true) : lnN (n ++ [58, 32] ++ x) = n ∧ lnV (n ++ [58, 32] ++ x) = x ∧ lnE (n ++ [58, 32] ++ x) = 0 := by
  obtain ⟨h1, h2, h3⟩ := line_bytes n x h
  obtain ⟨e1, e2, e3⟩ := ln_ok _ h1
  exact ⟨e1.trans h2, e2.trans h3, e3⟩
theorem cut_end (t : Bs) : bs ((mkS (t ++ [13, 10])).extract 0 t.length) = t ∧ (mkS (t ++ [13, 10])).extract t.length (t.length + 2) = ⟨#[13, 10]⟩ := by
  constructor
  · rw [bs_extract, bs_mkS]; simp
  · rw [extract_mkS, bs_mkS]
    have : (List.drop t.length (t ++ [13, 10])).take (t.length + 2 - t.length) = [13, 10] := by
      simp
    rw [this]; rfl

set_option maxRecDepth 100000 in
set_option maxHeartbeats 16000000 in
theorem fback_main (v : Value) (l : List (Bs × Bs)) (s : ByteArray) (w : World) (hs : IsFlds w v l) (hz : ∀ f ∈ l, f.1.length ≤ 140737488351232 ∧ f.2.length ≤ 140737488351232) (hl : l.length ≤ 140737488351232) (hb : lightF l = true) (h3 : s.size ≤ 300) :
    Calls Tryd.prog 10 #[v, .string s] w (Yes2 w) := by
  have HL := Lib.hid (lives02_any w)
  have HB := Lib.hid (fun (W : World) (h : Below w.heap.size w W) => light02_any v l W (isFlds_below hs h) hz hl)
  obtain ⟨hl30, hsum⟩ := lightF_parts l hb
  have HS := Lib.hid hs
  obtain ⟨a, cap, rfl⟩ : ∃ a cap, v = .slice a l.length cap := by obtain ⟨a, c, h, -⟩ := hs; exact ⟨a, c, h⟩
  rw [hb] at HB
  have h3' : ¬ (300 : Int) < (s.size : Int) := by omega
  have HMem := Lib.hid (sumF_mem l)
  clear hs hz hb
  go_enter Tryd.func10, Tryd.ntmps10
  go_wp2_with fail
  refine HL.out.mono ?_
  rintro e w1 ⟨rfl, hb⟩
  have HB1 := Lib.hid hb
  clear hb
  go_wp2_with fail
  refine (HB.out _ HB1.out).mono ?_
  rintro e w2 ⟨rfl, n0, rfl⟩
  have HB2 := Lib.hid (yes2_draws HB1.out n0)
  go_wp2_with fail
  go_loopw [5] (fun vi wr => ∃ i : Nat, i ≤ l.length ∧ vi = .int .i64 i ∧ Hid (Below w.heap.size w wr)) (fun vi _ => l.length - (RowKit.intOf vi).toNat)
  case atStart => exact ⟨0, Nat.zero_le _, rfl, HB2.out⟩
  case round =>
    obtain ⟨i, hi, rfl, HB3⟩ := hrel
    rename World => W
    by_cases hlt : i < l.length
    · obtain ⟨a', c', e', hcap, hc⟩ := isFlds_below HS.out HB3.out
      injection e' with e1 _ e2
      subst e1 e2
      obtain ⟨b, o, rfl, hc0, hc1⟩ := hc i (l.getD i ([], [])) (by simp [List.getD, hlt])
      have hm := HMem.out (l.getD i ([], [])) (by simp [List.getD, hlt])
      clear hc
      generalize l.getD i ([], []) = f at *
      obtain ⟨n, x⟩ := f
      simp only at hm hc0 hc1
      have hbW : b < W.heap.size := cell_lt (p := ⟨b, o + i * 2, none⟩) hc0
      have hci : ¬ cap = i := by omega
      have HFl := Lib.hid (isFlds_one (c := cap - i) (by omega) hc0 hc1)
      have hnz := size_mkS n
      have hxz := size_mkS x
      have HCK := fun W : World => check_any' (mkS n) (mkS x) W (by omega) (by omega)
      rw [bs_mkS, bs_mkS] at HCK
      have HNZ := Lib.hid hnz
      have HXZ := Lib.hid hxz
      clear hnz hxz
      have hby := bytes_any _ [(n, x)] W HFl.out (by rw [sum_one]; omega) (by simp)
      unfold BytesPost at hby
      cases hk : okF n x
      · obtain ⟨b1, b2⟩ := by_one_no n x hk
        rw [b1, b2] at hby
        rw [okE_no _ _ hk] at HCK
        have HBY := Lib.hid hby
        have HCK2 := Lib.hid HCK
        clear hby HCK hk b1 b2
        go_wp2_with fail
        refine HBY.out.mono ?_
        rintro e w3 ⟨rfl, hb⟩
        have HB4 := Lib.hid (HB3.out.trans (hb.mono HB3.out.size))
        have d0 : w3.cell? ⟨b, o + i * 2, none⟩ = some (.string (mkS n)) := (hb.cell (p := ⟨b, o + i * 2, none⟩) hbW).trans hc0
        have d1 : w3.cell? ⟨b, o + i * 2 + 1, none⟩ = some (.string (mkS x)) := (hb.cell (p := ⟨b, o + i * 2 + 1, none⟩) hbW).trans hc1
        clear hb hc0 hc1
        go_wp2_with fail
        refine (HCK2.out _).mono ?_
        rintro e w4 ⟨rfl, hb⟩
        have HB5 := Lib.hid (HB4.out.trans (hb.mono HB4.out.size))
        clear hb
        go_wp2_with fail
        exact ⟨⟨i + 1, by omega, by go_num, HB5⟩, by simp [RowKit.intOf]; omega⟩
      · obtain ⟨b1, b2⟩ := by_one_ok n x hk
        obtain ⟨g1, g2, g3⟩ := ln_of n x hk
        rw [b1, b2] at hby
        rw [okE_ok _ _ hk] at HCK
        have hnl : (n ++ [58, 32] ++ x).length ≤ 800 := by
          simp only [List.length_append, List.length_cons, List.length_nil]; omega
        clear b1 b2 hk
        generalize n ++ [58, 32] ++ x = t at *
        obtain ⟨q1, q2⟩ := cut_end t
        have qz : (mkS (t ++ [13, 10])).size = t.length + 2 := by rw [size_mkS]; simp
        have HLN := fun W : World => line_any ((mkS (t ++ [13, 10])).extract 0 t.length) W (by rw [← length_bs, q1]; omega)
        unfold LinePost at HLN
        rw [q1, g1, g2, g3] at HLN
        have HBY := Lib.hid hby
        have HCK2 := Lib.hid HCK
        have HLN2 := Lib.hid HLN
        clear hby HCK HLN g1 g2 g3 q1
        generalize mkS (t ++ [13, 10]) = u at *
        have hu2 : ¬ (u.size : Int) < 2 := by omega
        go_wp2_with fail
        refine HBY.out.mono ?_
        rintro e w3 ⟨rfl, hb⟩
        have HB4 := Lib.hid (HB3.out.trans (hb.mono HB3.out.size))
        have d0 : w3.cell? ⟨b, o + i * 2, none⟩ = some (.string (mkS n)) := (hb.cell (p := ⟨b, o + i * 2, none⟩) hbW).trans hc0
        have d1 : w3.cell? ⟨b, o + i * 2 + 1, none⟩ = some (.string (mkS x)) := (hb.cell (p := ⟨b, o + i * 2 + 1, none⟩) hbW).trans hc1
        have hb3 : b < w3.heap.size := Nat.lt_of_lt_of_le hbW hb.size
        clear hb hc0 hc1
        go_wp2_with fail
        refine (HCK2.out _).mono ?_
        rintro e w4 ⟨rfl, hb⟩
        have HB5 := Lib.hid (HB4.out.trans (hb.mono HB4.out.size))
        have c0 : w4.cell? ⟨b, o + i * 2, none⟩ = some (.string (mkS n)) := (hb.cell (p := ⟨b, o + i * 2, none⟩) hb3).trans d0
        have c1 : w4.cell? ⟨b, o + i * 2 + 1, none⟩ = some (.string (mkS x)) := (hb.cell (p := ⟨b, o + i * 2 + 1, none⟩) hb3).trans d1
        have hb4 : b < w4.heap.size := Nat.lt_of_lt_of_le hb3 hb.size
        clear hb d0 d1
        go_wp2_with fail
        have hw4 := HB5.out.size
        refine (HLN2.out _).mono ?_
        rintro e w5 ⟨rfl, hb⟩
        have HB6 := Lib.hid (HB5.out.trans (hb.mono hw4))
        have d0 : w5.cell? ⟨b, o + i * 2, none⟩ = some (.string (mkS n)) := (hb.cell (p := ⟨b, o + i * 2, none⟩) hb4).trans c0
        have d1 : w5.cell? ⟨b, o + i * 2 + 1, none⟩ = some (.string (mkS x)) := (hb.cell (p := ⟨b, o + i * 2 + 1, none⟩) hb4).trans c1
        have hb5 : b < w5.heap.size := Nat.lt_of_lt_of_le hb4 hb.size
        clear hb c0 c1
        go_wp2_with fail
        have hF := Two.new w5 51 (.string (mkS n)) (.string (mkS x))
        have hB6 : Below w5.heap.size w5 (w5.alloc (Obj.cells #[.string (mkS n), .string (mkS x)] 51)) := (Below.refl _ _).alloc (Nat.le_refl _) _
        have HB7 := Lib.hid (HB6.out.trans (hB6.mono HB6.out.size))
        have e0 : (w5.alloc (Obj.cells #[.string (mkS n), .string (mkS x)] 51)).cell? ⟨b, o + i * 2, none⟩ = some (.string (mkS n)) := (hB6.cell (p := ⟨b, o + i * 2, none⟩) hb5).trans d0
        have e1 : (w5.alloc (Obj.cells #[.string (mkS n), .string (mkS x)] 51)).cell? ⟨b, o + i * 2 + 1, none⟩ = some (.string (mkS x)) := (hB6.cell (p := ⟨b, o + i * 2 + 1, none⟩) hb5).trans d1
        have f0 := hF.c0
        have f1 := hF.c1
        have k1 : IntKind.i64.wrap ((t.length : Int) + 2 - 2) = (t.length : Int) := by rw [IntWalk.i64_in _ (by omega)]; omega
        have k2 : (0 : Int) ≤ (t.length : Int) := by omega
        have k3 : (t.length : Int) ≤ (t.length : Int) + 2 := by omega
        have k4 : (0 : Int) ≤ (i : Int) := by omega
        have k5 : (i : Int) < (l.length : Int) := by omega
        clear hF hB6 d0 d1
        generalize w5.alloc (Obj.cells #[.string (mkS n), .string (mkS x)] 51) = w6 at *
        generalize w5.heap.size = g at *
        go_quiet (fail)
        clear k1
        go_wp2_with fail
        exact ⟨⟨i + 1, by omega, by go_num, yes2_draws HB7.out _⟩, by simp [RowKit.intOf]; omega⟩
    · have hln := fun W : World => line_any s W (by omega)
      unfold LinePost at hln
      cases hk : lineOk (bs s)
      · obtain ⟨g1, g2, g3⟩ := ln_no _ hk
        rw [g1, g2, g3, show mkS [] = (⟨#[]⟩ : ByteArray) from rfl] at hln
        have HLN := Lib.hid hln
        clear hln hk g1 g2 g3
        go_wp2_with fail
        refine (HLN.out _).mono ?_
        rintro e w3 ⟨rfl, hb⟩
        have HB4 := Lib.hid (HB3.out.trans (hb.mono HB3.out.size))
        clear hb
        go_wp2_with fail
        go_ret
        exact ⟨rfl, HB4.out.alloc HB4.out.size _⟩
      · obtain ⟨g1, g2, g3⟩ := ln_ok _ hk
        have hok := line_ok _ hk
        have hn : (lineN (bs s)).length ≤ 300 := by
          have := cut_len1 58 (bs s)
          rw [length_bs] at this
          unfold lineN; omega
        have hx : (lineV (bs s)).length ≤ 300 := by
          have := cut_len2 58 (bs s)
          rw [length_bs] at this
          have h2 := trim_sublist (cutL 58 (bs s)).2.1
          unfold lineV; omega
        rw [g1, g2, g3] at hln
        have HLN := Lib.hid hln
        clear hln hk g1 g2 g3
        generalize lineN (bs s) = n at *
        generalize lineV (bs s) = x at *
        have HCK := fun W : World => check_any' (mkS n) (mkS x) W (by rw [size_mkS]; omega) (by rw [size_mkS]; omega)
        rw [bs_mkS, bs_mkS, okE_ok _ _ hok] at HCK
        have hby := fun (W : World) (g : Nat) (h : IsFlds W (.slice (some ⟨g, 0, none⟩) 1 1) [(n, x)]) => bytes_any _ [(n, x)] W h (by rw [sum_one]; omega) (by simp)
        unfold BytesPost at hby
        obtain ⟨b1, b2⟩ := by_one_ok n x hok
        obtain ⟨g1, g2, g3⟩ := ln_of n x hok
        rw [b1, b2] at hby
        have hnl : (n ++ [58, 32] ++ x).length ≤ 800 := by
          simp only [List.length_append, List.length_cons, List.length_nil]; omega
        clear b1 b2 hok
        generalize n ++ [58, 32] ++ x = t at *
        obtain ⟨q1, q2⟩ := cut_end t
        have qz : (mkS (t ++ [13, 10])).size = t.length + 2 := by rw [size_mkS]; simp
        have HL2 := fun W : World => line_any ((mkS (t ++ [13, 10])).extract 0 t.length) W (by rw [← length_bs, q1]; omega)
        unfold LinePost at HL2
        rw [q1, g1, g2, g3] at HL2
        have HBY := Lib.hid hby
        have HCK2 := Lib.hid HCK
        have HLN2 := Lib.hid HL2
        clear hby HCK HL2 g1 g2 g3 q1 q2
        generalize mkS (t ++ [13, 10]) = u at *
        have hmax : max 0 (t.length : Int) = (t.length : Int) := by omega
        go_wp2_with fail
        refine (HLN.out _).mono ?_
        rintro e w3 ⟨rfl, hb⟩
        have HB4 := Lib.hid (HB3.out.trans (hb.mono HB3.out.size))
        have HF4 := Lib.hid (Two.new w3 51 (.string (mkS n)) (.string (mkS x)))
        have HB5 := Lib.hid (HB4.out.alloc HB4.out.size (Obj.cells #[.string (mkS n), .string (mkS x)] 51))
        clear hb
        have hg4 := Lib.hid (show (w3.alloc (Obj.cells #[.string (mkS n), .string (mkS x)] 51)).heap.size = w3.heap.size + 1 by simp)
        go_wp2_with fail
        generalize w3.alloc (Obj.cells #[.string (mkS n), .string (mkS x)] 51) = w4 at *
        generalize w3.heap.size = g at *
        have hN := Two.new w4 51 (.string (mkS n)) (.string (mkS x))
        rw [hg4.out] at hN
        have hfl := isFlds_one (b := g + 1) (o := 0) (c := 1) (n := n) (x := x) (Nat.le_refl _) hN.c0 hN.c1
        have hB6 : Below w4.heap.size w4 (w4.alloc (Obj.cells #[.string (mkS n), .string (mkS x)] 51)) := (Below.refl _ _).alloc (Nat.le_refl _) _
        have HF5 := Lib.hid (HF4.out.later hB6)
        have HB6 := Lib.hid (HB5.out.trans (hB6.mono HB5.out.size))
        have hby5 := HBY.out _ _ hfl
        clear hN hfl hB6
        generalize w4.alloc (Obj.cells #[.string (mkS n), .string (mkS x)] 51) = w5 at *
        refine hby5.mono ?_
        rintro e w6 ⟨rfl, hb⟩
        have HF6 := Lib.hid (HF5.out.later hb)
        have HB7 := Lib.hid (HB6.out.trans (hb.mono HB6.out.size))
        have k1 : IntKind.i64.wrap ((t.length : Int) + 2 - 2) = (t.length : Int) := by rw [IntWalk.i64_in _ (by omega)]; omega
        clear hb hby5
        go_wp2_with fail
        refine (HLN2.out _).mono ?_
        rintro e w7 ⟨rfl, hb⟩
        have HF7 := Lib.hid (HF6.out.later hb)
        have HB8 := Lib.hid (HB7.out.trans (hb.mono HB7.out.size))
        have hN := Two.new w7 51 (.string (mkS n)) (.string (mkS x))
        have hB9 : Below w7.heap.size w7 (w7.alloc (Obj.cells #[.string (mkS n), .string (mkS x)] 51)) := (Below.refl _ _).alloc (Nat.le_refl _) _
        have HB9 := Lib.hid (HB8.out.trans (hB9.mono HB8.out.size))
        have hF8 := HF7.out.later hB9
        have p0 := hN.c0
        have p1 := hN.c1
        have r0 := hF8.c0
        have r1 := hF8.c1
        clear hb hN hB9 hF8
        go_wp2_with fail
        refine (HCK2.out _).mono ?_
        rintro e w8 ⟨rfl, hb⟩
        have HB10 := Lib.hid (HB9.out.trans (hb.mono HB9.out.size))
        clear hb
        go_wp2_with fail
        go_ret
        exact ⟨rfl, HB10.out⟩

/-- The law FieldBack, whatever the fields and the line. -/
theorem fback_any (v : Value) (l : List (Bs × Bs)) (s : ByteArray) (w : World) (hs : IsFlds w v l) (hz : ∀ f ∈ l, f.1.length ≤ 140737488351232 ∧ f.2.length ≤ 140737488351232) (hl : l.length ≤ 140737488351232) :
    Calls Tryd.prog 10 #[v, .string s] w (Yes2 w) := by
  cases hb : lightF l
  · exact fback_big v l s w hs hz hl (.inl hb)
  · by_cases h3 : s.size ≤ 300
    · exact fback_main v l s w hs hz hl hb h3
    · exact fback_big v l s w hs hz hl (.inr ⟨hb, by omega⟩)
end Tk
end Go.Proofs.YtogdmhgblceddaaDoor
