/- The law FramingBare: its walk. -/
import Derived.Test.YtapnlopeipdjmaaDoorFrmE
import Derived.Test.YtapnlopeipdjmaaDoorLtT
import Derived.Test.YtapnlopeipdjmaaDoorRSm
namespace Go.Proofs.YtapnlopeipdjmaaDoor
open Go.RowKit
namespace Tk

theorem isStrs_belowR {w w' : World} {v : Value} {l : List Bs} (h : IsStrs w v l) (hb : Below w.heap.size w w') : IsStrs w' v l := by
  obtain ⟨a, c, rfl, hc⟩ := h
  refine ⟨a, c, rfl, fun j t hj => ?_⟩
  obtain ⟨b, o, rfl, h2⟩ := hc j t hj
  exact ⟨b, o, rfl, (hb.cell (p := ⟨b, o + j, none⟩) (cell_lt (p := ⟨b, o + j, none⟩) h2)).trans h2⟩
theorem own_keepR {w w' : World} {B : Nat} {v : Value} {n : Nat} {xs : List Value} {e : TypeId} {k : Nat} (h : w.ownsRow B e k v n xs) (hb : Below w.heap.size w w') : w'.ownsRow B e k v n xs :=
  World.ownsRow.kept h (row := none) ⟨hb.os, hb.tape, hb.output, hb.size, fun k hk _ => hb.block k hk⟩ (by cases h : v.ownBlock <;> simp)

set_option maxRecDepth 100000 in
set_option maxHeartbeats 4000000 in
theorem fbare_big (v u : Value) (l : List (Bs × Bs)) (N : List Bs) (t : ByteArray) (s m : Int) (w : World) (hs : IsFlds w v l) (hu : IsStrs w u N) (hz : ∀ f ∈ l, f.1.length ≤ 140737488351232 ∧ f.2.length ≤ 140737488351232) (hl : l.length ≤ 140737488351232) (hzu : ∀ x ∈ N, x.length ≤ 140737488351232) (hlu : N.length ≤ 140737488351232)
    (h : lightF l = false ∨ (lightF l = true ∧ ¬ t.size ≤ 60) ∨ (lightF l = true ∧ t.size ≤ 60 ∧ lightX 20 300 N = false)) :
    Calls Tryd.prog 7 #[v, u, .string t, .int .i64 s, .int .i64 m] w (Yes2 w) := by
  have HL := Lib.hid (lives04_any w)
  have HG := Lib.hid (fun (W : World) (hb : Below w.heap.size w W) => light04_any v l W (isFlds_below hs hb) hz hl)
  have HX : Hid (∀ (W : World), Below w.heap.size w W → Calls Tryd.prog 27 #[u, .int .i64 20, .int .i64 300] W fun e w' => e = .returned (.bool (lightX 20 300 N)) ∧ W = w') := fun W hb => lightX_any 20 300 u N W (by decide) (by decide) (isStrs_belowR hu hb) hzu hlu
  obtain ⟨a, cap, rfl⟩ : ∃ a cap, v = .slice a l.length cap := by obtain ⟨a, c, h, -⟩ := hs; exact ⟨a, c, h⟩
  obtain ⟨au, cu, rfl⟩ : ∃ a cap, u = .slice a N.length cap := by obtain ⟨a, c, h, -⟩ := hu; exact ⟨a, c, h⟩
  unfold Yes2 at HL ⊢
  clear hs hz hu hzu
  rcases h with h | ⟨h, h2⟩ | ⟨h, h2, h3⟩
  · rw [h] at HG
    clear h
    go_enter Tryd.func7, Tryd.ntmps7
    go_wp2_with fail
    refine HL.out.mono ?_
    rintro e w1 ⟨rfl, hb⟩
    have HB := Lib.hid hb
    clear hb
    go_wp2_with fail
    refine (HG.out _ HB.out).mono ?_
    rintro e w2 ⟨rfl, n, rfl⟩
    go_wp2_with fail
    go_ret
    exact ⟨rfl, below_some_draws HB.out n⟩
  · rw [h] at HG
    clear h
    go_enter Tryd.func7, Tryd.ntmps7
    go_wp2_with fail
    refine HL.out.mono ?_
    rintro e w1 ⟨rfl, hb⟩
    have HB := Lib.hid hb
    clear hb
    go_wp2_with fail
    refine (HG.out _ HB.out).mono ?_
    rintro e w2 ⟨rfl, n, rfl⟩
    go_wp2_with fail
    go_ret
    exact ⟨rfl, below_some_draws HB.out n⟩
  · rw [h] at HG
    rw [h3] at HX
    clear h h3
    go_enter Tryd.func7, Tryd.ntmps7
    go_wp2_with fail
    refine HL.out.mono ?_
    rintro e w1 ⟨rfl, hb⟩
    have HB := Lib.hid hb
    clear hb
    go_wp2_with fail
    refine (HG.out _ HB.out).mono ?_
    rintro e w2 ⟨rfl, n, rfl⟩
    have HB2 := Lib.hid (below_some_draws HB.out n)
    go_wp2_with fail
    refine (HX.out _ HB2.out).mono ?_
    rintro e w' ⟨rfl, rfl⟩
    go_wp2_with fail
    go_ret
    exact ⟨rfl, HB2.out⟩

/-- fields that tell nothing of the end -/
def Mute (R : List (Bs × Bs)) : Prop := ∀ f ∈ R, isN nmCL f = false ∧ isN nmTE f = false
theorem sumF_app : ∀ (a b : List (Bs × Bs)), sumF (a ++ b) = sumF a + sumF b
  | [], b => by simp [sumF]
  | f :: t, b => by have := sumF_app t b; simp only [List.cons_append, sumF, this]; omega
theorem bare_head (s m : Int) (l : List (Bs × Bs)) : rsK [72, 69, 65, 68] s m l = 1 ∧ rsN [72, 69, 65, 68] s m l = 0 ∧ rsS [72, 69, 65, 68] s m l = 0 := by
  have h : bareB [72, 69, 65, 68] s = true := by unfold bareB; simp
  unfold rsK rsN rsS; rw [h]; exact ⟨rfl, rfl, rfl⟩
theorem bare_304 (t : Bs) (m : Int) (l : List (Bs × Bs)) : rsK t 304 m l = 1 ∧ rsN t 304 m l = 0 ∧ rsS t 304 m l = 0 := by
  have h : bareB t 304 = true := by unfold bareB; simp
  unfold rsK rsN rsS; rw [h]; exact ⟨rfl, rfl, rfl⟩
theorem bare_204 (t : Bs) (m : Int) (l : List (Bs × Bs)) : rsK t 204 m l = 1 ∧ rsN t 204 m l = 0 ∧ rsS t 204 m l = 0 := by
  have h : bareB t 204 = true := by unfold bareB; simp
  unfold rsK rsN rsS; rw [h]; exact ⟨rfl, rfl, rfl⟩

set_option maxRecDepth 100000 in
set_option maxHeartbeats 16000000 in
theorem fbare_main (v u : Value) (l : List (Bs × Bs)) (N : List Bs) (t : ByteArray) (s m : Int) (w : World) (hs : IsFlds w v l) (hnl : ∀ n c, v = .slice none n c → c = 0) (hu : IsStrs w u N) (hz : ∀ f ∈ l, f.1.length ≤ 140737488351232 ∧ f.2.length ≤ 140737488351232) (hl : l.length ≤ 140737488351232) (hzu : ∀ x ∈ N, x.length ≤ 140737488351232) (hlu : N.length ≤ 140737488351232)
    (hlf : lightF l = true) (ht : t.size ≤ 60) (hX : lightX 20 300 N = true) :
    Calls Tryd.prog 7 #[v, u, .string t, .int .i64 s, .int .i64 m] w (Yes2 w) := by
  obtain ⟨l30, lsum⟩ := lightF_parts l hlf
  obtain ⟨n20, neach⟩ := lightX_parts 20 300 N hX
  have HL := Lib.hid (lives04_any w)
  have hg := fun (W : World) (hb : Below w.heap.size w W) => light04_any v l W (isFlds_below hs hb) hz hl
  rw [hlf] at hg
  have HG := Lib.hid hg
  have hx : ∀ (W : World), Below w.heap.size w W → Calls Tryd.prog 27 #[u, .int .i64 20, .int .i64 300] W fun e w' => e = .returned (.bool (lightX 20 300 N)) ∧ W = w' := fun W hb => lightX_any 20 300 u N W (by decide) (by decide) (isStrs_belowR hu hb) hzu hlu
  rw [hX] at hx
  have HX := Lib.hid hx
  have HOw := Lib.hid (fun (W : World) (hb : Below w.heap.size w W) => own_any v l W (isFlds_below hs hb) hnl (by omega))
  have HU := Lib.hid (fun (W : World) (hb : Below w.heap.size w W) => isStrs_belowR hu hb)
  have HE := Lib.hid neach
  have C1 := Lib.hid (fun (W : World) (hb : Below w.heap.size w W) => request04_any m v l W (isFlds_below hs hb) (by omega) (by omega))
  have C2 : Hid (∀ (W : World) (R : List (Bs × Bs)) (v' : Value), IsFlds W v' (l ++ R) → sumF R ≤ 100000 → R.length ≤ 1000 → Mute R → Calls Tryd.prog 13 #[.int .i64 m, v'] W (FrPost (frK m l 1) (frN m l) (frS m l) W)) := fun W R v' h1 h2 h3 h4 => by
    have h := request04_any m v' (l ++ R) W h1 (by rw [sumF_app]; omega) (by rw [List.length_append]; omega)
    obtain ⟨e1, e2, e3⟩ := fr_more m l R 1 h4
    rw [e1, e2, e3] at h
    exact h
  have C3 : Hid (∀ (W : World), Below w.heap.size w W → Calls Tryd.prog 14 #[.string ⟨#[72, 69, 65, 68]⟩, .int .i64 s, .int .i64 m, v] W (FrPost 1 0 0 W)) := fun W hb => by
    have h := response04_any ⟨#[72, 69, 65, 68]⟩ s m v l W (isFlds_below hs hb) (by omega) (by omega)
    obtain ⟨e1, e2, e3⟩ := bare_head s m l
    rw [show bs ⟨#[72, 69, 65, 68]⟩ = [72, 69, 65, 68] from rfl, e1, e2, e3] at h
    exact h
  have C4 : Hid (∀ (W : World), Below w.heap.size w W → Calls Tryd.prog 14 #[.string t, .int .i64 304, .int .i64 m, v] W (FrPost 1 0 0 W)) := fun W hb => by
    have h := response04_any t 304 m v l W (isFlds_below hs hb) (by omega) (by omega)
    obtain ⟨e1, e2, e3⟩ := bare_304 (bs t) m l
    rw [e1, e2, e3] at h
    exact h
  have C5 : Hid (∀ (W : World), Below w.heap.size w W → Calls Tryd.prog 14 #[.string t, .int .i64 204, .int .i64 m, v] W (FrPost 1 0 0 W)) := fun W hb => by
    have h := response04_any t 204 m v l W (isFlds_below hs hb) (by omega) (by omega)
    obtain ⟨e1, e2, e3⟩ := bare_204 (bs t) m l
    rw [e1, e2, e3] at h
    exact h
  unfold FrPost at C1 C2 C3 C4 C5
  unfold Yes2 at HL ⊢
  obtain ⟨a, cap, rfl⟩ : ∃ a cap, v = .slice a l.length cap := by obtain ⟨a, c, h, -⟩ := hs; exact ⟨a, c, h⟩
  obtain ⟨au, cu, rfl⟩ : ∃ a cap, u = .slice a N.length cap := by obtain ⟨a, c, h, -⟩ := hu; exact ⟨a, c, h⟩
  clear hs hz hg lsum hlf hnl hu hzu hX hx neach
  generalize ((frK m l 1 : Nat) : Int) = K at *
  generalize ((frN m l : Nat) : Int) = Nn at *
  generalize ((frS m l : Nat) : Int) = S at *
  go_enter Tryd.func7, Tryd.ntmps7
  go_wp2_with fail
  refine HL.out.mono ?_
  rintro e w1 ⟨rfl, hb⟩
  have HB1 := Lib.hid hb
  clear hb
  go_wp2_with fail
  refine (HG.out _ HB1.out).mono ?_
  rintro e w2 ⟨rfl, n, rfl⟩
  have HB2 := Lib.hid (below_some_draws HB1.out n)
  generalize w1.drewN n = w2 at *
  go_wp2_with fail
  refine (HX.out _ HB2.out).mono ?_
  rintro e w' ⟨rfl, rfl⟩
  go_wp2_with fail
  refine (HOw.out _ HB2.out).mono ?_
  rintro e w3 ⟨v3, rfl, ho, hb⟩
  have HB3 := Lib.hid (HB2.out.trans (hb.mono HB2.out.size))
  have HO3 := Lib.hid ho
  have hs3 := hb.size
  clear ho hb HL HG HX HOw HB1
  go_wp2_with fail
  go_loopw [11, 12] (fun vm vi wr => ∃ (i : Nat) (R : List (Bs × Bs)), i ≤ N.length ∧ vi = .int .i64 i ∧ Hid (wr.ownsRow w2.heap.size 24 2 vm (l ++ R).length (fcells (l ++ R))) ∧ Hid (Below w.heap.size w wr) ∧ Hid (Mute R) ∧ R.length ≤ i ∧ sumF R ≤ i * 400 ∧ w2.heap.size ≤ wr.heap.size) (fun _ vi _ => N.length - (RowKit.intOf vi).toNat)
  case atStart =>
    refine ⟨0, [], Nat.zero_le _, rfl, ?_, HB3.out, fun f hf => by simp at hf, by simp, by simp [sumF], ?_⟩
    · show World.ownsRow _ _ _ _ _ _ _
      rw [List.append_nil]; exact HO3.out
    · exact hs3
  case round =>
    obtain ⟨i, R, hi, rfl, HO, HB, HM, hRl, hRs, hws⟩ := hrel
    rename World => W
    by_cases hlt : i < N.length
    · obtain ⟨a', c', e', hc⟩ := HU.out W HB.out
      injection e' with e1 _ e2
      subst e1 e2
      obtain ⟨b, o, rfl, hc⟩ := hc i (N.getD i []) (by simp [List.getD, hlt])
      have hxl := HE.out (N.getD i []) (by simp [List.getD, hlt])
      generalize N.getD i [] = x at *
      have hxz := size_mkS x
      have hblt : b < W.heap.size := cell_lt (p := ⟨b, o + i, none⟩) hc
      have hd1 : isN nmCL (x, [53]) = decide (lowL (bs (mkS x)) = lowL (bs ⟨#[67, 111, 110, 116, 101, 110, 116, 45, 76, 101, 110, 103, 116, 104]⟩)) := rfl
      have hd2 : isN nmTE (x, [53]) = decide (lowL (bs (mkS x)) = lowL (bs ⟨#[84, 114, 97, 110, 115, 102, 101, 114, 45, 69, 110, 99, 111, 100, 105, 110, 103]⟩)) := rfl
      have S1 := fun W : World => rsm_any (mkS x) ⟨#[67, 111, 110, 116, 101, 110, 116, 45, 76, 101, 110, 103, 116, 104]⟩ W (by omega) (by decide)
      have S2 := fun W : World => rsm_any (mkS x) ⟨#[84, 114, 97, 110, 115, 102, 101, 114, 45, 69, 110, 99, 111, 100, 105, 110, 103]⟩ W (by omega) (by decide)
      rw [← hd1] at S1
      rw [← hd2] at S2
      have HS2 := Lib.hid S2
      have g0 : (0 : Int) ≤ (i : Int) := by omega
      have g1 : (i : Int) < (N.length : Int) := by omega
      clear hxz hd1 hd2 S2
      cases k1 : isN nmCL (x, [53])
      · rw [k1] at S1
        have HS1 := Lib.hid S1
        clear S1
        cases k2 : isN nmTE (x, [53])
        · rw [k2] at HS2
          have HM2 : Hid (Mute (R ++ [(x, [53])])) := by
            intro f hf
            rcases List.mem_append.1 hf with hf | hf
            · exact HM.out f hf
            · rw [List.mem_singleton] at hf
              subst hf; exact ⟨k1, k2⟩
          have hR2 : sumF (R ++ [(x, [53])]) ≤ (i + 1) * 400 := by
            rw [sumF_app]
            have e : sumF [(x, [53])] = x.length + 5 := by simp [sumF]
            omega
          clear k1 k2
          go_wp2_with fail
          refine (HS1.out _).mono ?_
          rintro e w5 ⟨rfl, hb⟩
          have HB5 := Lib.hid (HB.out.trans (hb.mono HB.out.size))
          have HO5 := Lib.hid (own_keepR HO.out hb)
          have hc5 : w5.cell? ⟨b, o + i, none⟩ = some (.string (mkS x)) := (hb.cell (p := ⟨b, o + i, none⟩) hblt).trans hc
          have hblt5 : b < w5.heap.size := Nat.lt_of_lt_of_le hblt hb.size
          have hw5 := Nat.le_trans hws hb.size
          clear hb hc
          go_wp2_with fail
          refine (HS2.out _).mono ?_
          rintro e w6 ⟨rfl, hb⟩
          have HB6 := Lib.hid (HB5.out.trans (hb.mono HB5.out.size))
          have HO6 := Lib.hid (own_keepR HO5.out hb)
          have hc6 : w6.cell? ⟨b, o + i, none⟩ = some (.string (mkS x)) := (hb.cell (p := ⟨b, o + i, none⟩) hblt5).trans hc5
          have hw6 := Nat.le_trans hw5 hb.size
          clear hb hc5
          go_wp2_with fail
          refine (one04_any _ _ _).mono ?_
          rintro e w7 ⟨rfl, hb⟩
          have HB7 := Lib.hid (HB6.out.trans (hb.mono HB6.out.size))
          have ho7 := own_keepR HO6.out hb
          have hw7 := Nat.le_trans hw6 hb.size
          have hbal : Below w7.heap.size w7 (w7.alloc (Obj.cells #[.string (mkS x), .string ⟨#[53]⟩] 24)) := (Below.refl _ _).alloc (Nat.le_refl _) _
          have HO8 := Lib.hid (own_keepR ho7 hbal)
          have HB8 := Lib.hid (HB7.out.trans (hbal.mono HB7.out.size))
          have HF8 := Lib.hid (isFlds_cells w7 [(x, [53])] #[.string (mkS x), .string ⟨#[53]⟩] 1 rfl rfl)
          have hw8 : w2.heap.size ≤ (w7.alloc (Obj.cells #[.string (mkS x), .string ⟨#[53]⟩] 24)).heap.size := by simp; omega
          have hlr : (l ++ R).length ≤ 1048576 := by rw [List.length_append]; omega
          clear hb ho7 hbal
          go_wp2_with (at_builtin; refine joinF_guarded (by rfl) _ _ rfl w2.heap.size _ _ (l ++ R) [(x, [53])] rfl rfl HO8.out HF8.out (fun _ _ h => by injection h with h1; cases h1) hw8 hlr (by simp) ?_)
          intro v9 w9 ho9 hg9
          have HB9 := Lib.hid (HB8.out.trans ((below_of_grownF hg9 HO8.out hw8).mono HB2.out.size))
          have hw9 : w2.heap.size ≤ w9.heap.size := Nat.le_trans hw8 (below_of_grownF hg9 HO8.out hw8).size
          have HO9 : Hid (w9.ownsRow w2.heap.size 24 2 v9 (l ++ (R ++ [(x, [53])])).length (fcells (l ++ (R ++ [(x, [53])])))) := by
            show World.ownsRow _ _ _ _ _ _ _
            have e : (l ++ (R ++ [(x, [53])])).length = l.length + (R.length + 1) := by simp
            rw [e]
            exact ho9
          clear ho9 hg9
          go_wp2_with fail
          exact ⟨⟨i + 1, R ++ [(x, [53])], hlt, by go_num, HO9, HB9, HM2, by simp; omega, hR2, hw9⟩, by simp [RowKit.intOf]; omega⟩
        · rw [k2] at HS2
          clear k1 k2
          go_wp2_with fail
          refine (HS1.out _).mono ?_
          rintro e w5 ⟨rfl, hb⟩
          have HB5 := Lib.hid (HB.out.trans (hb.mono HB.out.size))
          have HO5 := Lib.hid (own_keepR HO.out hb)
          have hc5 : w5.cell? ⟨b, o + i, none⟩ = some (.string (mkS x)) := (hb.cell (p := ⟨b, o + i, none⟩) hblt).trans hc
          have hw5 := Nat.le_trans hws hb.size
          clear hb hc
          go_wp2_with fail
          refine (HS2.out _).mono ?_
          rintro e w6 ⟨rfl, hb⟩
          have HB6 := Lib.hid (HB5.out.trans (hb.mono HB5.out.size))
          have HO6 := Lib.hid (own_keepR HO5.out hb)
          have hw6 := Nat.le_trans hw5 hb.size
          clear hb hc5
          go_wp2_with fail
          exact ⟨⟨i + 1, R, hlt, by go_num, HO6, HB6, HM, by omega, by omega, hw6⟩, by simp [RowKit.intOf]; omega⟩
      · rw [k1] at S1
        have HS1 := Lib.hid S1
        clear S1 k1 HS2
        go_wp2_with fail
        refine (HS1.out _).mono ?_
        rintro e w5 ⟨rfl, hb⟩
        have HB5 := Lib.hid (HB.out.trans (hb.mono HB.out.size))
        have HO5 := Lib.hid (own_keepR HO.out hb)
        have hw5 := Nat.le_trans hws hb.size
        clear hb hc
        go_wp2_with fail
        exact ⟨⟨i + 1, R, hlt, by go_num, HO5, HB5, HM, by omega, by omega, hw5⟩, by simp [RowKit.intOf]; omega⟩
    · have hRs2 : sumF R ≤ 100000 := by omega
      have hRl2 : R.length ≤ 1000 := by omega
      go_wp2_with fail
      refine (C1.out _ HB.out).mono ?_
      rintro e w5 ⟨rfl, hb⟩
      have HB5 := Lib.hid (HB.out.trans (hb.mono HB.out.size))
      have ho5 := own_keepR HO.out hb
      have hbal : Below w5.heap.size w5 (w5.alloc (Obj.cells #[.int .i64 K, .int .i64 Nn] 28)) := (Below.refl _ _).alloc (Nat.le_refl _) _
      have HO6 := Lib.hid (own_keepR ho5 hbal)
      have HB6 := Lib.hid (HB5.out.trans (hbal.mono HB5.out.size))
      have HA := Lib.hid (Two.new w5 28 (.int .i64 K) (.int .i64 Nn))
      have HF6 := Lib.hid (isFlds_own HO6.out)
      clear hb ho5 hbal
      go_wp2_with fail
      generalize w5.alloc (Obj.cells #[.int .i64 K, .int .i64 Nn] 28) = w6 at *
      generalize w5.heap.size = g1 at *
      refine (C2.out _ R _ HF6.out hRs2 hRl2 HM.out).mono ?_
      rintro e w7 ⟨rfl, hb⟩
      have HA7 := Lib.hid (HA.out.later hb)
      have HB7 := Lib.hid (HB6.out.trans (hb.mono HB6.out.size))
      have hbal : Below w7.heap.size w7 (w7.alloc (Obj.cells #[.int .i64 K, .int .i64 Nn] 28)) := (Below.refl _ _).alloc (Nat.le_refl _) _
      have HA8 := HA7.out.later hbal
      have HB8 := Lib.hid (HB7.out.trans (hbal.mono HB7.out.size))
      have HD := Two.new w7 28 (.int .i64 K) (.int .i64 Nn)
      have a0 := HA8.c0
      have a1 := HA8.c1
      have b0 := HD.c0
      have b1 := HD.c1
      have ha := HA8.lt
      clear hb hbal HA8 HD HA7 HA HF6 HO6 HM HO C1 C2
      go_wp2_with fail
      generalize w7.alloc (Obj.cells #[.int .i64 K, .int .i64 Nn] 28) = w8 at *
      generalize w7.heap.size = g2 at *
      clear a0 a1 b0 b1 ha
      refine (C3.out _ HB8.out).mono ?_
      rintro e w9 ⟨rfl, hb⟩
      have HB9 := Lib.hid (HB8.out.trans (hb.mono HB8.out.size))
      have HX1 := Lib.hid (Two.new w9 28 (.int .i64 1) (.int .i64 0))
      have HB10 := Lib.hid (HB9.out.alloc HB9.out.size (Obj.cells #[.int .i64 1, .int .i64 0] 28))
      clear hb
      go_wp2_with fail
      generalize w9.alloc (Obj.cells #[.int .i64 1, .int .i64 0] 28) = w10 at *
      generalize w9.heap.size = g3 at *
      refine (C4.out _ HB10.out).mono ?_
      rintro e w11 ⟨rfl, hb⟩
      have HX2 := Lib.hid (HX1.out.later hb)
      have HB11 := Lib.hid (HB10.out.trans (hb.mono HB10.out.size))
      have hbal : Below w11.heap.size w11 (w11.alloc (Obj.cells #[.int .i64 1, .int .i64 0] 28)) := (Below.refl _ _).alloc (Nat.le_refl _) _
      have HX3 := Lib.hid (HX2.out.later hbal)
      have HY1 := Lib.hid (Two.new w11 28 (.int .i64 1) (.int .i64 0))
      have HB12 := Lib.hid (HB11.out.trans (hbal.mono HB11.out.size))
      clear hb hbal
      go_wp2_with fail
      generalize w11.alloc (Obj.cells #[.int .i64 1, .int .i64 0] 28) = w12 at *
      generalize w11.heap.size = g4 at *
      refine (C5.out _ HB12.out).mono ?_
      rintro e w13 ⟨rfl, hb⟩
      have HX4 := HX3.out.later hb
      have HY2 := HY1.out.later hb
      have HB13 := Lib.hid (HB12.out.trans (hb.mono HB12.out.size))
      have hbal : Below w13.heap.size w13 ((w13.alloc (Obj.cells #[.int .i64 1, .int .i64 0] 28)).alloc (Obj.cells #[.int .i64 1, .int .i64 0] 28)) := ((Below.refl _ _).alloc (Nat.le_refl _) _).alloc (by simp) _
      have HB14 := Lib.hid (HB13.out.trans (hbal.mono HB13.out.size))
      have hX := HX4.later hbal
      have hY := HY2.later hbal
      have q0 := hX.c0
      have q1 := hX.c1
      have r0 := hY.c0
      have r1 := hY.c1
      have hZ := (Two.new w13 28 (.int .i64 1) (.int .i64 0)).later ((Below.refl _ _).alloc (Nat.le_refl _) (Obj.cells #[.int .i64 1, .int .i64 0] 28))
      have s0 := hZ.c0
      have s1 := hZ.c1
      clear hb hbal HX4 HY2 hX hY hZ
      go_wp2_with fail
      go_ret
      exact ⟨rfl, HB14.out⟩

theorem fbare_any (v u : Value) (l : List (Bs × Bs)) (N : List Bs) (t : ByteArray) (s m : Int) (w : World) (hs : IsFlds w v l) (hnl : ∀ n c, v = .slice none n c → c = 0) (hu : IsStrs w u N) (hz : ∀ f ∈ l, f.1.length ≤ 140737488351232 ∧ f.2.length ≤ 140737488351232) (hl : l.length ≤ 140737488351232) (hzu : ∀ x ∈ N, x.length ≤ 140737488351232) (hlu : N.length ≤ 140737488351232) :
    Calls Tryd.prog 7 #[v, u, .string t, .int .i64 s, .int .i64 m] w (Yes2 w) := by
  cases hlf : lightF l
  · exact fbare_big v u l N t s m w hs hu hz hl hzu hlu (.inl hlf)
  · by_cases ht : t.size ≤ 60
    · cases hX : lightX 20 300 N
      · exact fbare_big v u l N t s m w hs hu hz hl hzu hlu (.inr (.inr ⟨hlf, ht, hX⟩))
      · exact fbare_main v u l N t s m w hs hnl hu hz hl hzu hlu hlf ht hX
    · exact fbare_big v u l N t s m w hs hu hz hl hzu hlu (.inr (.inl ⟨hlf, ht⟩))
end Tk
end Go.Proofs.YtapnlopeipdjmaaDoor
