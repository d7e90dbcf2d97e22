/- The law TokenQuoted: its walk. -/
import Derived.Test.YtogdmhgblceddaaDoorUnq
import Derived.Test.YtogdmhgblceddaaDoorTokE
import Derived.Test.YtogdmhgblceddaaDoorLives
import Derived.Test.YtogdmhgblceddaaDoorJoin
import Derived.Laws.OwnMore
namespace Go.Proofs.YtogdmhgblceddaaDoor
open Go.RowKit
namespace Tk
open Ff

theorem ret_bool {a b : Bool} (h : a = b) : Ending.returned (.bool a) = .returned (.bool b) := by rw [h]

set_option maxHeartbeats 400000 in
theorem refChar_any (c : UInt8) (w : World) :
    Calls Tryd.prog 73 #[.int .u8 (c.toNat : Int)] w fun r w' => r = .returned (.bool (decide (1 ≤ kindOf c.toNat))) ∧ w = w' := by
  have hlt := c.toNat_lt
  rw [kind_char _ hlt]
  generalize c.toNat = n at *
  by_cases h9 : n = 9
  · subst h9
    go_enter Tryd.func73, Tryd.ntmps73
    go_wp2_with fail
    go_ret
    exact ⟨rfl, rfl⟩
  · have h9' : ((n : Int) == 9) = false := by simp; omega
    by_cases h32 : 32 ≤ n
    · by_cases h126 : n ≤ 126
      · go_enter Tryd.func73, Tryd.ntmps73
        go_wp2_with fail
        go_ret
        exact ⟨rfl, rfl⟩
      · by_cases h128 : 128 ≤ n
        · go_enter Tryd.func73, Tryd.ntmps73
          go_wp2_with fail
          go_ret
          exact ⟨ret_bool (by rw [Bool.eq_iff_iff]; simp; omega), rfl⟩
        · go_enter Tryd.func73, Tryd.ntmps73
          go_wp2_with fail
          go_ret
          exact ⟨ret_bool (by rw [Bool.eq_iff_iff]; simp; omega), rfl⟩
    · have h128 : ¬ 128 ≤ n := by omega
      go_enter Tryd.func73, Tryd.ntmps73
      go_wp2_with fail
      go_ret
      exact ⟨ret_bool (by rw [Bool.eq_iff_iff]; simp; omega), rfl⟩

set_option maxHeartbeats 1000000 in
theorem refChars_any (s : ByteArray) (w : World) (hs : s.size ≤ 1099511627776) :
    Calls Tryd.prog 32 #[.string s] w fun r w' => r = .returned (.bool (allL 1 (bs s))) ∧ w = w' := by
  go_enter Tryd.func32, Tryd.ntmps32
  go_wp2_with fail
  go_loop [3] (fun v => ∃ i : Nat, i ≤ s.size ∧ v = .int .i64 i ∧ Hid (allL 1 (bs s) = allL 1 ((bs s).drop i))) (fun v => s.size - (RowKit.intOf v).toNat)
  case atStart => exact ⟨0, Nat.zero_le _, rfl, rfl⟩
  case round =>
    obtain ⟨i, hi, rfl, hd⟩ := hrel
    by_cases hlt : i < s.size
    · have D := Lib.hid (bs_drop s i hlt)
      have HC := refChar_any s[i] w
      cases hk : decide (1 ≤ kindOf s[i].toNat)
      · rw [hk] at HC
        have fin : allL 1 (bs s) = false := by rw [hd.out, D.out, allL_cons, hk]; rfl
        have HF := Lib.hid fin
        have HC2 := Lib.hid HC
        clear fin HC hk
        go_wp2_with fail
        refine HC2.out.mono ?_
        rintro e w' ⟨rfl, rfl⟩
        go_wp2_with fail
        go_ret
        exact ⟨by rw [HF.out]; rfl, rfl⟩
      · rw [hk] at HC
        have nx : allL 1 (bs s) = allL 1 ((bs s).drop (i + 1)) := by rw [hd.out, D.out, allL_cons, hk, Bool.true_and]
        have HX := Lib.hid nx
        have HC2 := Lib.hid HC
        clear nx HC hk
        go_wp2_with fail
        refine HC2.out.mono ?_
        rintro e w' ⟨rfl, rfl⟩
        go_wp2_with fail
        exact ⟨⟨i + 1, by omega, by go_num, HX⟩, by simp [RowKit.intOf]; omega⟩
    · have fin : allL 1 (bs s) = true := by rw [hd.out, List.drop_eq_nil_of_le (by rw [length_bs]; omega)]; rfl
      have HF := Lib.hid fin
      clear fin
      go_wp2_with fail
      go_ret
      exact ⟨by rw [HF.out]; rfl, rfl⟩

set_option maxRecDepth 100000 in
set_option maxHeartbeats 2000000 in
theorem quoted_big (s t : ByteArray) (w : World) (hT : Tabs w) (h : 200 < s.size ∨ (s.size ≤ 200 ∧ 200 < t.size)) :
    Calls Tryd.prog 7 #[.string s, .string t] w (Yes w) := by
  have HL := Lib.hid (lives_any w hT)
  clear hT
  rcases h with h | ⟨h0, h⟩
  all_goals
    go_enter Tryd.func7, Tryd.ntmps7
    go_wp2_with fail
    refine HL.out.mono ?_
    rintro e w1 ⟨rfl, hb⟩
    have HB := Lib.hid hb
    clear hb
    go_wp2_with fail
    go_ret
    exact ⟨rfl, HB.out⟩

theorem cells_new (w : World) (cs : Array Value) (T : TypeId) (j : Nat) (u : Value) (h : cs.toList[j]? = some u) : (w.alloc (.cells cs T)).cell? ((⟨w.heap.size, 0, none⟩ : Addr).add j) = some u := by
  have e : (w.alloc (.cells cs T)).cell? ⟨w.heap.size, j, none⟩ = some u := by
    rw [Lib.cell_of_heap (heap_alloc_last w _)]
    rw [Array.getElem?_toList] at h
    exact h
  by_cases hj : j = 0
  · subst hj; simpa [Addr.add] using e
  · simpa [Addr.add, hj] using e

def pre (s : ByteArray) (i : Nat) : Bs := 34 :: pairs ((bs s).take i)
theorem pre_len (s : ByteArray) (i : Nat) (h : i ≤ s.size) : (pre s i).length = 1 + 2 * i := by
  unfold pre; rw [List.length_cons, pairs_len, List.length_take, length_bs]; omega
theorem pre_next (s : ByteArray) (i : Nat) (h : i < s.size) : pre s (i + 1) = pre s i ++ [92, s[i]] := by
  unfold pre
  have hd : (bs s).take (i + 1) = (bs s).take i ++ [s[i]] := by
    rw [List.take_add_one, List.getElem?_eq_getElem (by rw [length_bs]; exact h)]; rfl
  rw [hd, pairs_snoc]; rfl
theorem pre_all (s : ByteArray) : pre s s.size ++ [34] = 34 :: (pairs (bs s) ++ [34]) := by
  unfold pre; rw [List.take_of_length_le (by rw [length_bs]; exact Nat.le_refl _)]; rfl

theorem byteCells_len (l : Bs) : (Lib.byteCells l).length = l.length := by simp [Lib.byteCells]
theorem byteCells_app (a b : Bs) : Lib.byteCells (a ++ b) = Lib.byteCells a ++ Lib.byteCells b := by simp [Lib.byteCells]

set_option maxRecDepth 100000 in
set_option maxHeartbeats 4000000 in
theorem quoted_main (s m : ByteArray) (w : World) (hT : Tabs w) (hs : s.size ≤ 200) (ht : m.size ≤ 200) :
    Calls Tryd.prog 7 #[.string s, .string m] w (Yes w) := by
  have HL := Lib.hid (lives_any w hT)
  obtain ⟨i0, hi, hz0, hz1, hz2⟩ := info_parts byteInf
  clear hT
  go_enter Tryd.func7, Tryd.ntmps7
  go_wp2_with fail
  refine HL.out.mono ?_
  rintro e w1 ⟨rfl, hb⟩
  have HB := Lib.hid hb
  clear hb
  go_wp2_with fail
  have hlit : (w1.alloc (Obj.cells #[Value.int IntKind.u8 34] 5)).ownsRow w.heap.size 5 1 (.slice (some ⟨w1.heap.size, 0, none⟩) 1 1) 1 (Lib.byteCells [34]) := by
    have := World.ownsRow_lit (base := w.heap.size) (e := 5) (size := 1) w1 #[Value.int IntKind.u8 34] 1 HB.out.size (by decide) rfl
    exact this
  have HO1 := Lib.hid (show (w1.alloc (Obj.cells #[Value.int IntKind.u8 34] 5)).ownsRow w.heap.size 5 1 (.slice (some ⟨w1.heap.size, 0, none⟩) 1 1) (pre s 0).length (Lib.byteCells (pre s 0)) from hlit)
  have HB1 := Lib.hid (HB.out.alloc HB.out.size (Obj.cells #[Value.int IntKind.u8 34] 5))
  clear hlit
  go_loopw [5, 6] (fun v vi wr => ∃ i : Nat, i ≤ s.size ∧ vi = .int .i64 i ∧ Hid (wr.ownsRow w.heap.size 5 1 v (pre s i).length (Lib.byteCells (pre s i))) ∧ Hid (Below w.heap.size w wr)) (fun _ vi _ => s.size - (RowKit.intOf vi).toNat)
  case atStart => exact ⟨0, Nat.zero_le _, rfl, HO1.out, HB1.out⟩
  case round =>
    obtain ⟨i, hi', rfl, HO, HB3⟩ := hrel
    rename World => W
    have hpl := pre_len s i hi'
    by_cases hlt : i < s.size
    · have hnx := pre_next s i hlt
      have HNX := Lib.hid hnx
      have HPL := Lib.hid hpl
      clear hnx hpl
      generalize pre s i = P at *
      go_wp2_with (at_builtin; refine wpList_append_own _ rfl _ _ 45 rfl w.heap.size 5 i0 (.int .u8 0) 1 1 Tryd.underlying45 hi hz0 hz1 hz2 rfl (by decide) _ _ _ rfl (HO.out.alloc _) ⟨W.heap.size, 0, none⟩ 2 2 [.int .u8 92, .int .u8 s[i].toNat] rfl rfl ?c1 ?c2 ?c3 ?c4 ?c5 ?_)
      case c1 => exact fun j u hj => cells_new W #[.int .u8 92, .int .u8 s[i].toNat] 5 j u hj
      case c2 => intro u hu; simp at hu; rcases hu with rfl | rfl <;> rfl
      case c3 => have := HPL.out; unfold maxLen; omega
      case c4 => have := HPL.out; omega
      case c5 => have := HB3.out.size; simp; omega
      intro v' w2 hown' hgrow _
      have HO2 : Hid (w2.ownsRow w.heap.size 5 1 v' (pre s (i + 1)).length (Lib.byteCells (pre s (i + 1)))) := by
        show w2.ownsRow w.heap.size 5 1 v' (pre s (i + 1)).length (Lib.byteCells (pre s (i + 1)))
        rw [HNX.out, byteCells_app, List.length_append]
        exact hown'
      have HB4 := Lib.hid (HB3.out.trans (((Below.refl w.heap.size W).alloc HB3.out.size _).trans (below_of_grown hgrow (HO.out.alloc _) (by have := HB3.out.size; simp; omega))))
      clear hown' hgrow
      go_wp2_with fail
      exact ⟨⟨i + 1, by omega, by go_num, HO2, HB4⟩, by simp [RowKit.intOf]; omega⟩
    · have hil : i = s.size := by omega
      subst hil
      have hpq := pre_all s
      have HPL := Lib.hid hpl
      clear hpl
      generalize pre s s.size = P at *
      have hql : (34 :: (pairs (bs s) ++ [34])).length = 2 * s.size + 2 := by
        rw [List.length_cons, List.length_append, pairs_len, length_bs]; rfl
      have hqu := unqOk_pairs (bs s)
      have hqs : mkS (unq ((34 :: (pairs (bs s) ++ [34]) : Bs).drop 1)) = s := by
        show mkS (unq (pairs (bs s) ++ [34])) = s
        rw [unq_pairs, mkS_bs]
      have hqt : (quoteL (bs s)).length ≤ 402 := by
        have := esc_len (bs s)
        rw [length_bs] at this
        unfold quoteL
        rw [List.length_cons, List.length_append, List.length_singleton]; omega
      have hmore : ∀ q : ByteArray, bs q = quoteL (bs s) → unqOk (bs (q ++ m ++ ⟨#[34]⟩)) = false := fun q hq => by
        have e : bs (q ++ m ++ ⟨#[34]⟩) = quoteL (bs s) ++ bs m ++ [34] := by
          rw [← hq]
          show (q ++ m ++ ⟨#[34]⟩).data.toList = _
          rw [ByteArray.data_append, ByteArray.data_append]
          simp [bs]
        rw [e]; exact unqOk_more _ _
      have hmore2 := hmore (mkS (quoteL (bs s))) rfl
      clear hmore
      generalize 34 :: (pairs (bs s) ++ [34]) = Q at *
      go_wp2_with (at_builtin; refine wpList_append_own _ rfl _ _ 45 rfl w.heap.size 5 i0 (.int .u8 0) 1 1 Tryd.underlying45 hi hz0 hz1 hz2 rfl (by decide) _ _ _ rfl (HO.out.alloc _) ⟨W.heap.size, 0, none⟩ 1 1 [.int .u8 34] rfl rfl ?c1 ?c2 ?c3 ?c4 ?c5 ?_)
      case c1 => exact fun j u hj => cells_new W #[.int .u8 34] 5 j u hj
      case c2 => intro u hu; simp at hu; subst hu; rfl
      case c3 => have := HPL.out; unfold maxLen; omega
      case c4 => have := HPL.out; omega
      case c5 => have := HB3.out.size; simp; omega
      intro v' w2 hown' hgrow _
      have HB4 := Lib.hid (HB3.out.trans (((Below.refl w.heap.size W).alloc HB3.out.size _).trans (below_of_grown hgrow (HO.out.alloc _) (by have := HB3.out.size; simp; omega))))
      have hown2 : w2.ownsRow w.heap.size 5 1 v' Q.length (Lib.byteCells Q) := by
        rw [← hpq, byteCells_app, List.length_append]
        exact hown'
      clear hown' hgrow hpq
      obtain ⟨g, cap, rfl⟩ : ∃ g cap, v' = .slice (some ⟨g, 0, none⟩) Q.length cap := by
        rcases hown2.2 with ⟨_, h0⟩ | ⟨g, cap, cur, hv, _⟩
        · omega
        · exact ⟨g, cap, hv⟩
      have hback := run_convert_bytes_back (P := Tryd.prog) w2 45 9 5 ⟨g, 0, none⟩ cap Q Tryd.underlying45 Tryd.underlying5 Tryd.underlying9 (fun j hj => hown2.cells (g := g) rfl j _ (by simp [Lib.byteCells, hj]))
      have hqz : (mkS Q).size = Q.length := size_mkS Q
      have HQL := Lib.hid hql
      clear hql hown2
      have hqe : (⟨Q.toArray⟩ : ByteArray) = mkS Q := rfl
      rw [hqe] at hback
      cases hv : allL 1 (bs s)
      · rw [hv] at hqu
        have U := Lib.hid (fun W : World => unquote_no (mkS Q) W (by have := HQL.out; omega) hqu)
        have V := Lib.hid (fun W : World => quote_bad s W (by omega) hv)
        have X := refChars_any s
        have X := Lib.hid (fun W : World => by have := refChars_any s W (by omega); rw [hv] at this; exact this)
        clear hqz hqe hqu hqs hqt hmore2 hv
        generalize mkS Q = q at *
        go_wp2_with fail
        refine (U.out _).mono ?_
        rintro e w3 ⟨rfl, hb⟩
        have HB5 := Lib.hid (HB4.out.trans (hb.mono HB4.out.size))
        clear hb
        go_wp2_with fail
        refine (X.out _).mono ?_
        rintro e w4 ⟨rfl, rfl⟩
        go_wp2_with fail
        refine (V.out _).mono ?_
        rintro e w5 ⟨rfl, hb⟩
        have HB6 := Lib.hid (HB5.out.trans (hb.mono HB5.out.size))
        clear hb
        go_wp2_with fail
        go_ret
        exact ⟨rfl, HB6.out⟩
      · rw [hv] at hqu
        have U0 := fun W : World => unquote_yes (mkS Q) W (by have := HQL.out; omega) hqu
        rw [bs_mkS, hqs] at U0
        have U := Lib.hid U0
        have V := Lib.hid (fun W : World => quote_ok s W (by omega) hv)
        have X := Lib.hid (fun W : World => by have := refChars_any s W (by omega); rw [hv] at this; exact this)
        rw [← size_mkS] at hqt
        have hsm : (mkS (quoteL (bs s)) ++ m ++ ⟨#[34]⟩ : ByteArray).size ≤ 1000 := by
          have e1 : (ByteArray.mk #[34]).size = 1 := rfl
          simp only [ByteArray.size_append]; omega
        have Y := Lib.hid (fun W : World => unquote_no (mkS (quoteL (bs s)) ++ m ++ ⟨#[34]⟩) W (by omega) hmore2)
        clear hqz hqe hqu hqs hmore2 hv U0 hsm
        generalize mkS (quoteL (bs s)) = r at *
        generalize mkS Q = q at *
        go_wp2_with fail
        refine (U.out _).mono ?_
        rintro e w3 ⟨rfl, hb⟩
        have HB5 := Lib.hid (HB4.out.trans (hb.mono HB4.out.size))
        clear hb
        go_wp2_with fail
        refine (X.out _).mono ?_
        rintro e w4 ⟨rfl, rfl⟩
        go_wp2_with fail
        refine (V.out _).mono ?_
        rintro e w5 ⟨rfl, hb⟩
        have HB6 := Lib.hid (HB5.out.trans (hb.mono HB5.out.size))
        clear hb
        go_wp2_with fail
        refine (Y.out _).mono ?_
        rintro e w6 ⟨rfl, hb⟩
        have HB7 := Lib.hid (HB6.out.trans (hb.mono HB6.out.size))
        clear hb
        go_wp2_with fail
        go_ret
        exact ⟨rfl, HB7.out⟩

theorem quoted_any (s t : ByteArray) (w : World) (hT : Tabs w) :
    Calls Tryd.prog 7 #[.string s, .string t] w (Yes w) := by
  by_cases hs : s.size ≤ 200
  · by_cases ht : t.size ≤ 200
    · exact quoted_main s t w hT hs ht
    · exact quoted_big s t w hT (.inr ⟨hs, by omega⟩)
  · exact quoted_big s t w hT (.inl (by omega))
end Tk
end Go.Proofs.YtogdmhgblceddaaDoor
