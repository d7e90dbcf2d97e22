/- The document's own Quote. -/
import Derived.Test.YtapnlopeipdjmaaGreatDoorRefA
import Derived.Test.YtapnlopeipdjmaaGreatDoorUnq
import Derived.Test.YtapnlopeipdjmaaGreatDoorStr
import Derived.Laws.OwnMore
namespace Go.Proofs.YtapnlopeipdjmaaGreatDoor
open Go.RowKit
namespace Tk

theorem cells_newQ (w : World) (cs : Array Value) (T : TypeId) (j : Nat) (u : Value) (h : cs.toList[j]? = some u) : (w.alloc (.cells cs T)).cell? ((⟨w.heap.size, 0, none⟩ : Addr).add j) = some u := by
  have e : (w.alloc (.cells cs T)).cell? ⟨w.heap.size, j, none⟩ = some u := by
    rw [Lib.cell_of_heap (heap_alloc_last w _)]
    rw [Array.getElem?_toList] at h
    exact h
  by_cases hj : j = 0
  · subst hj; simpa [Addr.add] using e
  · simpa [Addr.add, hj] using e

def preQ (s : ByteArray) (i : Nat) : Bs := 34 :: ((bs s).take i).flatMap esc
theorem preQ_len (s : ByteArray) (i : Nat) (h : i ≤ s.size) : (preQ s i).length ≤ 1 + 2 * i ∧ 1 ≤ (preQ s i).length := by
  unfold preQ
  have := esc_len ((bs s).take i)
  rw [List.length_take, length_bs] at this
  rw [List.length_cons]
  omega
theorem preQ_next (s : ByteArray) (i : Nat) (h : i < s.size) : preQ s (i + 1) = preQ s i ++ esc s[i] := by
  unfold preQ; rw [esc_take s i h]; rfl
theorem preQ_all (s : ByteArray) : preQ s s.size ++ [34] = quoteL (bs s) := by
  unfold preQ quoteL; rw [List.take_of_length_le (by rw [length_bs]; exact Nat.le_refl _)]; rfl
theorem bytesQ_app (a b : Bs) : Lib.byteCells (a ++ b) = Lib.byteCells a ++ Lib.byteCells b := by simp [Lib.byteCells]
theorem escQ_b (c : UInt8) (h : c = 34 ∨ c = 92) : esc c = [92] ++ [c] := by unfold esc; rw [if_pos h]; rfl

set_option maxRecDepth 100000 in
theorem rquote_bad (s : ByteArray) (w : World) (hs : s.size ≤ 1000000000) (h : allL 1 (bs s) = false) :
    Calls Tryz.prog 6 #[.string s] w fun e w' => e = .returned (.tuple #[.string .empty, .int .i64 4]) ∧ Below w.heap.size w w' := by
  have H := rChars_any s w (by omega)
  rw [h] at H
  go_enter Tryz.func6, Tryz.ntmps6
  go_wp2_with fail
  refine H.mono ?_
  rintro e w1 ⟨rfl, rfl⟩
  go_wp2_with fail
  go_ret2
  exact ⟨rfl, Below.refl _ _⟩

set_option maxRecDepth 100000 in
set_option maxHeartbeats 8000000 in
theorem rquote_ok (s : ByteArray) (w : World) (hs : s.size ≤ 1000000000) (h : allL 1 (bs s) = true) :
    Calls Tryz.prog 6 #[.string s] w fun e w' => e = .returned (.tuple #[.string (mkS (quoteL (bs s))), .int .i64 0]) ∧ Below w.heap.size w w' := by
  have H := rChars_any s w (by omega)
  rw [h] at H
  obtain ⟨i0, hi, hz0, hz1, hz2⟩ := info_parts byteInf
  have HA := Lib.hid (preQ_all s)
  go_enter Tryz.func6, Tryz.ntmps6
  go_wp2_with fail
  refine H.mono ?_
  rintro e w1 ⟨rfl, rfl⟩
  go_wp2_with fail
  have hlit : (w.alloc (Obj.cells #[Value.int IntKind.u8 34] 5)).ownsRow w.heap.size 5 1 (.slice (some ⟨w.heap.size, 0, none⟩) 1 1) 1 (Lib.byteCells [34]) := by
    have := World.ownsRow_lit (base := w.heap.size) (e := 5) (size := 1) w #[Value.int IntKind.u8 34] 1 (Nat.le_refl _) (by decide) rfl
    exact this
  have HO1 := Lib.hid (show (w.alloc (Obj.cells #[Value.int IntKind.u8 34] 5)).ownsRow w.heap.size 5 1 (.slice (some ⟨w.heap.size, 0, none⟩) 1 1) (preQ s 0).length (Lib.byteCells (preQ s 0)) from hlit)
  have HB1 := Lib.hid ((Below.refl w.heap.size w).alloc (Nat.le_refl _) (Obj.cells #[Value.int IntKind.u8 34] 5))
  clear hlit h
  go_loopw [4, 5] (fun v vi wr => ∃ i : Nat, i ≤ s.size ∧ vi = .int .i64 i ∧ Hid (wr.ownsRow w.heap.size 5 1 v (preQ s i).length (Lib.byteCells (preQ s i))) ∧ Hid (Below w.heap.size w wr)) (fun _ vi _ => s.size - (RowKit.intOf vi).toNat)
  case atStart => exact ⟨0, Nat.zero_le _, rfl, HO1.out, HB1.out⟩
  case round =>
    obtain ⟨i, hi', rfl, HO, HB3⟩ := hrel
    rename World => W
    have HPL := Lib.hid (preQ_len s i hi')
    by_cases hlt : i < s.size
    · have HNX := Lib.hid (preQ_next s i hlt)
      generalize preQ s i = P at *
      by_cases hq : s[i] = 34 ∨ s[i] = 92
      · have he := escQ_b s[i] hq
        have hor : ((s[i].toNat : Int) == 34) = true ∨ ((s[i].toNat : Int) == 34) = false ∧ ((s[i].toNat : Int) == 92) = true := by
          rcases hq with e | e <;> rw [e] <;> decide
        have HE := Lib.hid he
        clear he hq
        rcases hor with h34 | ⟨h34, h92⟩
        all_goals
          go_wp2_with (at_builtin; refine wpList_append_own _ rfl _ _ 41 rfl w.heap.size 5 i0 (.int .u8 0) 1 1 Tryz.underlying41 hi hz0 hz1 hz2 rfl (by decide) _ _ _ rfl (HO.out.alloc _) ⟨W.heap.size, 0, none⟩ 1 1 [.int .u8 92] rfl rfl ?c1 ?c2 ?c3 ?c4 ?c5 ?_)
          case c1 => exact fun j u hj => cells_newQ W #[.int .u8 92] 5 j u hj
          case c2 => intro u hu; simp at hu; subst hu; rfl
          case c3 => have := HPL.out; unfold maxLen; omega
          case c4 => have := HPL.out; omega
          case c5 => have := HB3.out.size; simp; omega
          intro v' w2 hown' hgrow _
          have HO2 : Hid (w2.ownsRow w.heap.size 5 1 v' (P ++ [92]).length (Lib.byteCells (P ++ [92]))) := by
            show w2.ownsRow w.heap.size 5 1 v' (P ++ [92]).length (Lib.byteCells (P ++ [92]))
            rw [bytesQ_app, List.length_append]
            exact hown'
          have HB4 := Lib.hid (HB3.out.trans (((Below.refl w.heap.size W).alloc HB3.out.size _).trans (below_of_grown hgrow (HO.out.alloc _) (by have := HB3.out.size; simp; omega))))
          clear hown' hgrow
          have HPL2 : Hid ((P ++ [92]).length ≤ 2 + 2 * i) := by
            show (P ++ [92]).length ≤ 2 + 2 * i
            rw [List.length_append]; have := HPL.out.1; simp; omega
          have HN2 : Hid (preQ s (i + 1) = (P ++ [92]) ++ [s[i]]) := by
            show _ = _
            rw [HNX.out, HE.out, List.append_assoc]
          generalize P ++ [92] = P2 at *
          go_wp2_with (at_builtin; refine wpList_append_own _ rfl _ _ 41 rfl w.heap.size 5 i0 (.int .u8 0) 1 1 Tryz.underlying41 hi hz0 hz1 hz2 rfl (by decide) _ _ _ rfl (HO2.out.alloc _) ⟨w2.heap.size, 0, none⟩ 1 1 [.int .u8 s[i].toNat] rfl rfl ?d1 ?d2 ?d3 ?d4 ?d5 ?_)
          case d1 => exact fun j u hj => cells_newQ w2 #[.int .u8 s[i].toNat] 5 j u hj
          case d2 => intro u hu; simp at hu; subst hu; rfl
          case d3 => have := HPL2.out; unfold maxLen; omega
          case d4 => have := HPL2.out; omega
          case d5 => have := HB4.out.size; simp; omega
          intro v3 w3 hown' hgrow _
          have HO3 : Hid (w3.ownsRow w.heap.size 5 1 v3 (preQ s (i + 1)).length (Lib.byteCells (preQ s (i + 1)))) := by
            show w3.ownsRow w.heap.size 5 1 v3 (preQ s (i + 1)).length (Lib.byteCells (preQ s (i + 1)))
            rw [HN2.out, bytesQ_app, List.length_append]
            exact hown'
          have HB5 := Lib.hid (HB4.out.trans (((Below.refl w.heap.size w2).alloc HB4.out.size _).trans (below_of_grown hgrow (HO2.out.alloc _) (by have := HB4.out.size; simp; omega))))
          clear hown' hgrow
          go_wp2_with fail
          go_roundw
          case rel => exact ⟨i + 1, by omega, by go_num, HO3, HB5⟩
          case measure => simp [RowKit.intOf] <;> omega
      · have he : esc s[i] = [s[i]] := by unfold esc; rw [if_neg hq]
        have HE := Lib.hid he
        have h34 : ((s[i].toNat : Int) == 34) = false := by
          cases hb : ((s[i].toNat : Int) == 34)
          · rfl
          · exact absurd (.inl (u8_is s[i] 34 (by omega) hb)) hq
        have h92 : ((s[i].toNat : Int) == 92) = false := by
          cases hb : ((s[i].toNat : Int) == 92)
          · rfl
          · exact absurd (.inr (u8_is s[i] 92 (by omega) hb)) hq
        clear he hq
        go_wp2_with (at_builtin; refine wpList_append_own _ rfl _ _ 41 rfl w.heap.size 5 i0 (.int .u8 0) 1 1 Tryz.underlying41 hi hz0 hz1 hz2 rfl (by decide) _ _ _ rfl (HO.out.alloc _) ⟨W.heap.size, 0, none⟩ 1 1 [.int .u8 s[i].toNat] rfl rfl ?c1 ?c2 ?c3 ?c4 ?c5 ?_)
        case c1 => exact fun j u hj => cells_newQ W #[.int .u8 s[i].toNat] 5 j u hj
        case c2 => intro u hu; simp at hu; subst hu; rfl
        case c3 => have := HPL.out; unfold maxLen; omega
        case c4 => have := HPL.out; omega
        case c5 => have := HB3.out.size; simp; omega
        intro v' w2 hown' hgrow _
        have HO2 : Hid (w2.ownsRow w.heap.size 5 1 v' (preQ s (i + 1)).length (Lib.byteCells (preQ s (i + 1)))) := by
          show w2.ownsRow w.heap.size 5 1 v' (preQ s (i + 1)).length (Lib.byteCells (preQ s (i + 1)))
          rw [HNX.out, HE.out, bytesQ_app, List.length_append]
          exact hown'
        have HB4 := Lib.hid (HB3.out.trans (((Below.refl w.heap.size W).alloc HB3.out.size _).trans (below_of_grown hgrow (HO.out.alloc _) (by have := HB3.out.size; simp; omega))))
        clear hown' hgrow
        go_wp2_with fail
        go_roundw
        case rel => exact ⟨i + 1, by omega, by go_num, HO2, HB4⟩
        case measure => simp [RowKit.intOf] <;> omega
    · have hil : i = s.size := by omega
      subst hil
      generalize preQ s s.size = P at *
      have hQL : (quoteL (bs s)).length ≤ 2 + 2 * s.size ∧ 1 ≤ (quoteL (bs s)).length := by
        rw [← HA.out, List.length_append]; have := HPL.out; simp; omega
      have HQL := Lib.hid hQL
      clear hQL
      obtain ⟨Q, hQ⟩ : ∃ Q, Q = quoteL (bs s) := ⟨_, rfl⟩
      rw [← hQ] at HA HQL
      have HQ := Lib.hid hQ
      clear hQ
      go_wp2_with (at_builtin; refine wpList_append_own _ rfl _ _ 41 rfl w.heap.size 5 i0 (.int .u8 0) 1 1 Tryz.underlying41 hi hz0 hz1 hz2 rfl (by decide) _ _ _ rfl (HO.out.alloc _) ⟨W.heap.size, 0, none⟩ 1 1 [.int .u8 34] rfl rfl ?c1 ?c2 ?c3 ?c4 ?c5 ?_)
      case c1 => exact fun j u hj => cells_newQ W #[.int .u8 34] 5 j u hj
      case c2 => intro u hu; simp at hu; subst hu; rfl
      case c3 => have := HPL.out; unfold maxLen; omega
      case c4 => have := HPL.out; omega
      case c5 => have := HB3.out.size; simp; omega
      intro v' w2 hown' hgrow _
      have HB4 := Lib.hid (HB3.out.trans (((Below.refl w.heap.size W).alloc HB3.out.size _).trans (below_of_grown hgrow (HO.out.alloc _) (by have := HB3.out.size; simp; omega))))
      have hown2 : w2.ownsRow w.heap.size 5 1 v' Q.length (Lib.byteCells Q) := by
        rw [← HA.out, bytesQ_app, List.length_append]
        exact hown'
      clear hown' hgrow
      obtain ⟨g, cap, rfl⟩ : ∃ g cap, v' = .slice (some ⟨g, 0, none⟩) Q.length cap := by
        rcases hown2.2 with ⟨_, h0⟩ | ⟨g, cap, cur, hv, _⟩
        · have := HQL.out; omega
        · exact ⟨g, cap, hv⟩
      have hback := run_convert_bytes_back (P := Tryz.prog) w2 41 9 5 ⟨g, 0, none⟩ cap Q Tryz.underlying41 Tryz.underlying5 Tryz.underlying9 (fun j hj => hown2.cells (g := g) rfl j _ (by simp [Lib.byteCells, hj]))
      have hqe : (⟨Q.toArray⟩ : ByteArray) = mkS Q := rfl
      rw [hqe] at hback
      clear hown2
      obtain ⟨q, hq⟩ : ∃ q, q = mkS Q := ⟨_, rfl⟩
      rw [← hq] at hback
      have HQ2 := Lib.hid hq
      clear hq hqe
      go_wp2_with fail
      go_ret2
      refine ⟨?_, HB4.out⟩
      have e1 := HQ2.out
      rw [HQ.out] at e1
      rw [← e1]
      rfl
end Tk
end Go.Proofs.YtapnlopeipdjmaaGreatDoor
