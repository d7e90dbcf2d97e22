/- RefUq RefTr, put together. -/
import Derived.Test.YtnbipbeeengiaaaGreatDoorQL
import Derived.Laws.BytesArg
import Derived.Test.YtnbipbeeengiaaaGreatDoorQA
namespace Go.Proofs.YtnbipbeeengiaaaGreatDoor
open Go.RowKit
namespace Tk

def uqT (l : Bs) : Bs := if unqOk l then unq (l.drop 1) else []
def uqC (l : Bs) : Int := if unqOk l then 0 else 4
def inT (o : Option Bs) : Bs := o.getD []
def inC (o : Option Bs) : Int := if o.isSome then 0 else 4
def UqPost (l : Bs) (w : World) (e : Ending) (w' : World) : Prop := e = .returned (.tuple #[.string (mkS (uqT l)), .int .i64 (uqC l)]) ∧ Below w.heap.size w w'
theorem uq_no (l : Bs) (h : unqOk l = false) : (Ending.returned (.tuple #[.string .empty, .int .i64 4])) = .returned (.tuple #[.string (mkS (uqT l)), .int .i64 (uqC l)]) := by unfold uqT uqC; rw [h]; rfl

set_option maxHeartbeats 4000000 in
set_option maxRecDepth 100000 in
theorem runq_bad (s : ByteArray) (w : World) (hs : s.size ≤ 1000000000) (h : s.size < 2 ∨ (2 ≤ s.size ∧ (bs s).head? ≠ some 34) ∨ (2 ≤ s.size ∧ (bs s).head? = some 34 ∧ (bs s).getLast? ≠ some 34) ∨ (2 ≤ s.size ∧ (bs s).head? = some 34 ∧ (bs s).getLast? = some 34 ∧ allL 1 (bs s) = false)) :
    Calls Tryz.prog 65 #[.string s] w fun e w' => e = .returned (.tuple #[.string .empty, .int .i64 4]) ∧ Below w.heap.size w w' := by
  rcases h with h | ⟨h2, h⟩ | ⟨h2, h0, h⟩ | ⟨h2, h0, hl, h⟩
  · go_enter Tryz.func65, Tryz.ntmps65
    go_wp2_with fail
    go_ret2
    exact ⟨rfl, Below.refl _ _⟩
  · have hp : 0 < s.size := by omega
    rw [bs_head s hp] at h
    have hb : ((s[0].toNat : Int) != 34) = true := by
      rw [bne_iff_ne]
      intro e
      exact h (congrArg some (UInt8.toNat_inj.1 (show s[0].toNat = 34 by omega)))
    clear h
    go_enter Tryz.func65, Tryz.ntmps65
    go_wp2_with fail
    go_ret2
    exact ⟨rfl, Below.refl _ _⟩
  · have hp : 0 < s.size := by omega
    have hp1 : s.size - 1 < s.size := by omega
    rw [bs_head s hp] at h0
    injection h0 with h0
    have hb : ((s[0].toNat : Int) != 34) = false := by rw [h0]; rfl
    have hlast : (bs s).getLast? = some (s[s.size - 1]'hp1) := by
      rw [List.getLast?_eq_getElem?, length_bs, List.getElem?_eq_getElem (by rw [length_bs]; exact hp1)]; rfl
    rw [hlast] at h
    have hb1 : (((s[s.size - 1]'hp1).toNat : Int) != 34) = true := by
      rw [bne_iff_ne]
      intro e
      exact h (congrArg some (UInt8.toNat_inj.1 (show (s[s.size - 1]'hp1).toNat = 34 by omega)))
    have k1 : IntKind.i64.wrap ((s.size : Int) - 1) = ((s.size - 1 : Nat) : Int) := by rw [IntWalk.i64_in _ (by omega)]; omega
    have k2 : ((s.size : Int) - 1).toNat = s.size - 1 := by omega
    clear h h0 hlast
    go_enter Tryz.func65, Tryz.ntmps65
    go_wp2_with fail
    go_ret2
    exact ⟨rfl, Below.refl _ _⟩
  · have hp : 0 < s.size := by omega
    have hp1 : s.size - 1 < s.size := by omega
    rw [bs_head s hp] at h0
    injection h0 with h0
    have hb : ((s[0].toNat : Int) != 34) = false := by rw [h0]; rfl
    have hlast : (bs s).getLast? = some (s[s.size - 1]'hp1) := by
      rw [List.getLast?_eq_getElem?, length_bs, List.getElem?_eq_getElem (by rw [length_bs]; exact hp1)]; rfl
    rw [hlast] at hl
    injection hl with hl
    have hb1 : (((s[s.size - 1]'hp1).toNat : Int) != 34) = false := by rw [hl]; rfl
    have k1 : IntKind.i64.wrap ((s.size : Int) - 1) = ((s.size - 1 : Nat) : Int) := by rw [IntWalk.i64_in _ (by omega)]; omega
    have k2 : ((s.size : Int) - 1).toNat = s.size - 1 := by omega
    have HC := rChars_any s w (by omega)
    rw [h] at HC
    have HC2 := Lib.hid HC
    clear h h0 hl hlast HC
    go_enter Tryz.func65, Tryz.ntmps65
    go_wp2_with fail
    refine HC2.out.mono ?_
    rintro e w' ⟨rfl, rfl⟩
    go_wp2_with fail
    go_ret2
    exact ⟨rfl, Below.refl _ _⟩

theorem conv_own {w : World} {B : Nat} {v : Value} {P : Bs} (h : w.ownsRow B 5 1 v P.length (Lib.byteCells P)) : ∃ a c, v = .slice a P.length c ∧ (convert 82 9 (.slice a P.length c)).run Tryz.prog w = .ok (.string (mkS P)) w := by
  rcases h.2 with ⟨hv, hn⟩ | ⟨g, cap, cur, hv, _⟩
  · have hP : P = [] := List.eq_nil_of_length_eq_zero hn
    subst hP
    exact ⟨none, 0, hv, run_convert_bytes_nil w 82 5 Tryz.underlying82 Tryz.underlying5 0 0 9 Tryz.underlying9⟩
  · refine ⟨some ⟨g, 0, none⟩, cap, hv, ?_⟩
    exact run_convert_bytes_back (P := Tryz.prog) w 82 9 5 ⟨g, 0, none⟩ cap P Tryz.underlying82 Tryz.underlying5 Tryz.underlying9 (fun j hj => h.cells (g := g) (by rw [hv]; rfl) j _ (by simp [Lib.byteCells, hj]))

set_option maxRecDepth 100000 in
set_option maxHeartbeats 16000000 in
theorem runq_main (s : ByteArray) (t : Bs) (w : World) (hs : s.size ≤ 1000000000) (hst : bs s = 34 :: (t ++ [34])) (ha : allL 1 (bs s) = true) :
    Calls Tryz.prog 65 #[.string s] w fun e w' => e = .returned (.tuple #[.string (mkS (inT (inn t))), .int .i64 (inC (inn t))]) ∧ Below w.heap.size w w' := by
  obtain ⟨i0, hi, hz0, hz1, hz2⟩ := info_parts byteInf
  have hsz : s.size = t.length + 2 := by rw [← length_bs, hst]; simp
  have hp : 0 < s.size := by omega
  have hp1 : s.size - 1 < s.size := by omega
  have h0 : s[0] = 34 := by
    have := bs_head s hp
    rw [hst] at this
    injection this with this
    exact this.symm
  have hl : s[s.size - 1]'hp1 = 34 := by
    have h1 : (bs s).getLast? = some (s[s.size - 1]'hp1) := by
      rw [List.getLast?_eq_getElem?, length_bs, List.getElem?_eq_getElem (by rw [length_bs]; exact hp1)]; rfl
    have h2 : (bs s).getLast? = some 34 := by
      rw [hst, show 34 :: (t ++ [34]) = (34 :: t) ++ [34] from rfl, List.getLast?_append]; rfl
    rw [h2] at h1
    injection h1 with h1
    exact h1.symm
  have hb : ((s[0].toNat : Int) != 34) = false := by rw [h0]; rfl
  have hb1 : (((s[s.size - 1]'hp1).toNat : Int) != 34) = false := by rw [hl]; rfl
  have k1 : IntKind.i64.wrap ((s.size : Int) - 1) = ((s.size - 1 : Nat) : Int) := by rw [IntWalk.i64_in _ (by omega)]; omega
  have k2 : ((s.size : Int) - 1).toNat = s.size - 1 := by omega
  have hu : bs (s.extract 1 (s.size - 1)) = t := by
    rw [bs_extract, hst, hsz]
    simp
  have HC := rChars_any s w (by omega)
  rw [ha] at HC
  have HC2 := Lib.hid HC
  have HU := Lib.hid hu
  have hul : (s.extract 1 (s.size - 1)).size = t.length := by rw [← length_bs, hu]
  have g1 : 2 ≤ s.size := by omega
  have HUL := Lib.hid hul
  clear hst ha h0 hl hu HC hul hsz
  go_enter Tryz.func65, Tryz.ntmps65
  go_wp2_with fail
  refine HC2.out.mono ?_
  rintro e w' ⟨rfl, rfl⟩
  go_wp2_with fail
  have hus : (s.extract 1 (s.size - 1)).size ≤ 1000000000 := by rw [HUL.out]; have := HUL.out; simp only [ByteArray.size_extract] at this; omega
  generalize s.extract 1 (s.size - 1) = u at *
  clear hb hb1 k1 k2
  go_loopw [4, 5] (fun vo vi wr => ∃ (i : Nat) (P : Bs), i ≤ u.size ∧ P.length ≤ i ∧ vi = .int .i64 i ∧ Hid (wr.ownsRow w.heap.size 5 1 vo P.length (Lib.byteCells P)) ∧ Hid (Below w.heap.size w wr) ∧ Hid (inn t = (inn ((bs u).drop i)).map (P ++ ·))) (fun _ vi _ => u.size - (RowKit.intOf vi).toNat)
  case atStart =>
    refine ⟨0, [], Nat.zero_le _, Nat.le_refl _, rfl, World.ownsRow_nil _ _ _ _, Below.refl _ _, ?_⟩
    show _ = _
    rw [List.drop_zero, HU.out]
    cases inn t <;> rfl
  case round =>
    obtain ⟨i, P, hi', hP, rfl, HO, HB, HI⟩ := hrel
    rename World => W
    by_cases hlt : i < u.size
    · have D := Lib.hid (bs_drop u i hlt)
      by_cases h34 : u[i] = 34
      · have hno : inn t = none := by rw [HI.out, D.out, h34, inn_q]; rfl
        have HN := Lib.hid hno
        have b34 : ((u[i].toNat : Int) == 34) = true := by rw [h34]; rfl
        clear hno h34
        go_wp2_with fail
        go_ret2
        exact ⟨by rw [HN.out]; rfl, HB.out⟩
      · have b34 : ((u[i].toNat : Int) == 34) = false := by
          rw [beq_eq_false_iff_ne]
          intro e
          exact h34 (UInt8.toNat_inj.1 (show u[i].toNat = 34 by omega))
        by_cases h92 : u[i] = 92
        · have b92 : ((u[i].toNat : Int) == 92) = true := by rw [h92]; rfl
          by_cases hl2 : i + 1 < u.size
          · have D2 := Lib.hid (bs_drop u (i + 1) hl2)
            have hnx : inn t = (inn ((bs u).drop (i + 2))).map ((P ++ [u[i + 1]]) ++ ·) := by
              rw [HI.out, D.out, h92, D2.out, inn_b, Option.map_map]
              congr 1
              funext z; simp
            have HN := Lib.hid hnx
            have be : (((i : Int) + 1) == (u.size : Int)) = false := by rw [beq_eq_false_iff_ne]; omega
            have hi1 : (0 : Int) ≤ (i : Int) + 1 := by omega
            have ht1 : ((i : Int) + 1).toNat = i + 1 := by omega
            clear hnx h34 h92
            go_wp2_with (at_builtin; refine wpList_append_own _ rfl _ _ 82 rfl w.heap.size 5 i0 (.int .u8 0) 1 1 Tryz.underlying82 hi hz0 hz1 hz2 rfl (by decide) _ _ _ rfl (HO.out.alloc _) ⟨W.heap.size, 0, none⟩ 1 1 [.int .u8 u[i + 1].toNat] rfl rfl ?c1 ?c2 ?c3 ?c4 ?c5 ?_)
            case c1 => exact fun j x hj => cells_newQ W #[.int .u8 u[i + 1].toNat] 5 j x hj
            case c2 => intro x hx; simp at hx; subst hx; rfl
            case c3 => unfold maxLen; omega
            case c4 => omega
            case c5 => have := HB.out.size; simp; omega
            intro v' w2 hown' hgrow _
            have HO2 : Hid (w2.ownsRow w.heap.size 5 1 v' (P ++ [u[i + 1]]).length (Lib.byteCells (P ++ [u[i + 1]]))) := by
              show w2.ownsRow w.heap.size 5 1 v' (P ++ [u[i + 1]]).length (Lib.byteCells (P ++ [u[i + 1]]))
              rw [bytesQ_app, List.length_append]
              exact hown'
            have HB2 := Lib.hid (HB.out.trans (((Below.refl w.heap.size W).alloc HB.out.size _).trans (below_of_grown hgrow (HO.out.alloc _) (by have := HB.out.size; simp; omega))))
            clear hown' hgrow
            go_wp2_with fail
            exact ⟨⟨i + 2, P ++ [u[i + 1]], by omega, by simp; omega, by go_num, HO2, HB2, HN⟩, by simp [RowKit.intOf]; omega⟩
          · have hno : inn t = none := by
              rw [HI.out, D.out, h92, List.drop_eq_nil_of_le (by rw [length_bs]; omega), inn_b1]; rfl
            have HN := Lib.hid hno
            have be : (((i : Int) + 1) == (u.size : Int)) = true := by rw [beq_iff_eq]; omega
            clear hno h34 h92
            go_wp2_with fail
            go_ret2
            exact ⟨by rw [HN.out]; rfl, HB.out⟩
        · have b92 : ((u[i].toNat : Int) == 92) = false := by
            rw [beq_eq_false_iff_ne]
            intro e
            exact h92 (UInt8.toNat_inj.1 (show u[i].toNat = 92 by omega))
          have hnx : inn t = (inn ((bs u).drop (i + 1))).map ((P ++ [u[i]]) ++ ·) := by
            rw [HI.out, D.out, inn_o _ _ h34 h92, Option.map_map]
            congr 1
            funext z; simp
          have HN := Lib.hid hnx
          clear hnx h34 h92
          go_wp2_with (at_builtin; refine wpList_append_own _ rfl _ _ 82 rfl w.heap.size 5 i0 (.int .u8 0) 1 1 Tryz.underlying82 hi hz0 hz1 hz2 rfl (by decide) _ _ _ rfl (HO.out.alloc _) ⟨W.heap.size, 0, none⟩ 1 1 [.int .u8 u[i].toNat] rfl rfl ?c1 ?c2 ?c3 ?c4 ?c5 ?_)
          case c1 => exact fun j x hj => cells_newQ W #[.int .u8 u[i].toNat] 5 j x hj
          case c2 => intro x hx; simp at hx; subst hx; rfl
          case c3 => unfold maxLen; omega
          case c4 => omega
          case c5 => have := HB.out.size; simp; omega
          intro v' w2 hown' hgrow _
          have HO2 : Hid (w2.ownsRow w.heap.size 5 1 v' (P ++ [u[i]]).length (Lib.byteCells (P ++ [u[i]]))) := by
            show w2.ownsRow w.heap.size 5 1 v' (P ++ [u[i]]).length (Lib.byteCells (P ++ [u[i]]))
            rw [bytesQ_app, List.length_append]
            exact hown'
          have HB2 := Lib.hid (HB.out.trans (((Below.refl w.heap.size W).alloc HB.out.size _).trans (below_of_grown hgrow (HO.out.alloc _) (by have := HB.out.size; simp; omega))))
          clear hown' hgrow
          go_wp2_with fail
          exact ⟨⟨i + 1, P ++ [u[i]], by omega, by simp; omega, by go_num, HO2, HB2, HN⟩, by simp [RowKit.intOf]; omega⟩
    · have hfin : inn t = some P := by
        rw [HI.out, List.drop_eq_nil_of_le (by rw [length_bs]; omega)]
        simp [inn]
      have HF := Lib.hid hfin
      obtain ⟨a, c, hv, hconv⟩ := conv_own HO.out
      subst hv
      obtain ⟨q, hq⟩ : ∃ q, q = mkS P := ⟨_, rfl⟩
      rw [← hq] at hconv
      have HQ := Lib.hid hq
      clear hfin hq
      go_wp2_with fail
      go_ret2
      refine ⟨?_, HB.out⟩
      rw [HF.out]
      show _ = Ending.returned (.tuple #[.string (mkS P), .int .i64 0])
      rw [← HQ.out]; rfl

theorem runquote_any (s : ByteArray) (w : World) (hs : s.size ≤ 1000000000) : Calls Tryz.prog 65 #[.string s] w (UqPost (bs s) w) := by
  have bad : unqOk (bs s) = false → (s.size < 2 ∨ (2 ≤ s.size ∧ (bs s).head? ≠ some 34) ∨ (2 ≤ s.size ∧ (bs s).head? = some 34 ∧ (bs s).getLast? ≠ some 34) ∨ (2 ≤ s.size ∧ (bs s).head? = some 34 ∧ (bs s).getLast? = some 34 ∧ allL 1 (bs s) = false)) → Calls Tryz.prog 65 #[.string s] w (UqPost (bs s) w) := fun h hc =>
    (runq_bad s w hs hc).mono fun e w' ⟨he, hb⟩ => ⟨he.trans (uq_no _ h), hb⟩
  by_cases h2 : s.size < 2
  · exact bad (uq_short _ (by rw [length_bs]; exact h2)) (.inl h2)
  · have hl2 : 2 ≤ (bs s).length := by rw [length_bs]; omega
    by_cases hh : (bs s).head? = some 34
    · by_cases hg : (bs s).getLast? = some 34
      · obtain ⟨t, ht⟩ : ∃ t, bs s = 34 :: (t ++ [34]) := by
          cases hb : bs s with
          | nil => rw [hb] at hh; cases hh
          | cons c r =>
            rw [hb] at hh hg hl2
            simp at hh
            subst hh
            have hr : r ≠ [] := fun e => by rw [e] at hl2; simp at hl2
            refine ⟨r.dropLast, ?_⟩
            have h1 := List.dropLast_concat_getLast hr
            have h3 : r.getLast hr = 34 := by
              rw [List.getLast?_cons] at hg
              have : r.getLast? = some (r.getLast hr) := List.getLast?_eq_some_getLast hr
              rw [this] at hg
              simpa using hg
            rw [h3] at h1
            rw [h1]
        by_cases ha : allL 1 (bs s) = true
        · have hm := runq_main s t w hs ht ha
          rw [ht] at ha
          obtain ⟨e1, e2⟩ := uq_is t ha
          refine hm.mono fun e w' ⟨he, hb⟩ => ⟨he.trans ?_, hb⟩
          unfold uqT uqC inT inC
          rw [ht, e1]
          cases hi : inn t with
          | none => rfl
          | some v =>
            have := e2 v hi
            show Ending.returned (.tuple #[.string (mkS v), .int .i64 0]) = Ending.returned (.tuple #[.string (mkS (unq (t ++ [34]))), .int .i64 0])
            rw [this]
        · have ha' : allL 1 (bs s) = false := by simpa using ha
          exact bad (uq_chars _ ha') (.inr (.inr (.inr ⟨by omega, hh, hg, ha'⟩)))
      · refine bad ?_ (.inr (.inr (.inl ⟨by omega, hh, hg⟩)))
        cases hb : bs s with
        | nil => rw [hb] at hh; cases hh
        | cons c r =>
          rw [hb] at hh hg hl2
          simp at hh
          subst hh
          have hr : r ≠ [] := fun e => by rw [e] at hl2; simp at hl2
          have h1 := List.dropLast_concat_getLast hr
          have h3 : r.getLast hr ≠ 34 := by
            intro e
            apply hg
            rw [List.getLast?_cons, List.getLast?_eq_some_getLast hr, e]; rfl
          rw [← h1]
          exact uq_last _ _ h3
    · refine bad ?_ (.inr (.inl ⟨by omega, hh⟩))
      cases hb : bs s with
      | nil => rfl
      | cons c r =>
        refine uq_first c r fun e => hh ?_
        rw [hb, e]; rfl
end Tk
end Go.Proofs.YtnbipbeeengiaaaGreatDoor
namespace Go.Proofs.YtnbipbeeengiaaaGreatDoor
open Go.RowKit
namespace Tk

theorem tr_consW (c : UInt8) (l : Bs) (hc : wh c = true) : trimL (c :: l) = trimL l := by
  rw [trimL_eq, trimL_eq]
  unfold tr
  rw [List.reverse_cons, dropWhile_append]
  have h1 : ([c] : Bs).dropWhile wh = [] := by rw [List.dropWhile_cons, hc, if_pos rfl]; rfl
  by_cases h : l.reverse.dropWhile wh = []
  · rw [if_pos h, h, h1]
  · rw [if_neg h, List.reverse_append]
    show (c :: (l.reverse.dropWhile wh).reverse).dropWhile wh = _
    rw [List.dropWhile_cons, hc, if_pos rfl]
theorem tr_snocW (c : UInt8) (l : Bs) (hc : wh c = true) : trimL (l ++ [c]) = trimL l := by
  rw [trimL_eq, trimL_eq]
  congr 1
  unfold tr
  rw [List.reverse_append]
  show ((c :: l.reverse).dropWhile wh).reverse = _
  rw [List.dropWhile_cons, hc, if_pos rfl]
theorem wh_of (c : UInt8) : wh c = (decide (c.toNat = 32) || decide (c.toNat = 9)) := by
  have := u8_all (fun c => wh c == (decide (c.toNat = 32) || decide (c.toNat = 9))) (by decide +kernel) c
  simpa using this

set_option maxHeartbeats 400000 in
theorem rWhite_any (c : UInt8) (w : World) :
    Calls Tryz.prog 137 #[.int .u8 (c.toNat : Int)] w fun e w' => e = .returned (.bool (wh c)) ∧ w = w' := by
  have HD := Lib.hid (wh_of c)
  generalize wh c = b at *
  generalize c.toNat = n at *
  by_cases h0 : n = 32
  · have e0 : ((n : Int) == 32) = true := by rw [beq_iff_eq]; omega
    have H0 := Lib.hid h0
    clear h0
    go_enter Tryz.func137, Tryz.ntmps137
    go_wp2_with fail
    go_ret
    exact ⟨retB2 (by rw [HD.out, H0.out]; simp), rfl⟩
  · have e0 : ((n : Int) == 32) = false := by rw [beq_eq_false_iff_ne]; omega
    have hd := HD.out
    rw [decide_eq_false h0, Bool.false_or] at hd
    have HD2 := Lib.hid hd
    by_cases h1 : n = 9
    · have e1 : ((n : Int) == 9) = true := by rw [beq_iff_eq]; omega
      have HD3 := Lib.hid (show b = true by rw [hd, decide_eq_true h1])
      clear h0 h1 hd HD HD2
      go_enter Tryz.func137, Tryz.ntmps137
      go_wp2_with fail
      go_ret
      exact ⟨retB2 (by rw [HD3.out] <;> first | rfl | simp), rfl⟩
    · have e1 : ((n : Int) == 9) = false := by rw [beq_eq_false_iff_ne]; omega
      have HD3 := Lib.hid (show b = false by rw [hd, decide_eq_false h1])
      clear h0 h1 hd HD HD2
      go_enter Tryz.func137, Tryz.ntmps137
      go_wp2_with fail
      go_ret
      exact ⟨retB2 (by rw [HD3.out] <;> first | rfl | simp), rfl⟩

set_option maxHeartbeats 4000000 in
set_option maxRecDepth 100000 in
theorem rTrim_any (s : ByteArray) (w : World) (hs : s.size ≤ 1099511627776) :
    Calls Tryz.prog 92 #[.string s] w fun e w' => e = .returned (.string (mkS (trimL (bs s)))) ∧ w = w' := by
  go_enter Tryz.func92, Tryz.ntmps92
  go_wp2_with fail
  go_loop [0] (fun vs => ∃ t : ByteArray, vs = .string t ∧ t.size ≤ s.size ∧ Hid (trimL (bs t) = trimL (bs s))) (fun vs => match vs with | .string t => t.size | _ => 0)
  case atStart => exact ⟨s, rfl, Nat.le_refl _, rfl⟩
  case round =>
    obtain ⟨t, rfl, htz, hT⟩ := hrel
    have second : ∀ (c1 : t.size = 0 ∨ ∃ h : 0 < t.size, wh t[0] = false), ∀ c, (bs t).head? = some c → wh c = false := by
      rintro (h | ⟨h, h'⟩) c hc
      · have : bs t = [] := List.eq_nil_of_length_eq_zero (by rw [length_bs]; exact h)
        rw [this] at hc; cases hc
      · rw [bs_head t h] at hc
        injection hc with hc
        rw [← hc]; exact h'
    have hcase : t.size = 0 ∨ (0 < t.size ∧ ((∃ h : 0 < t.size, wh t[0] = false) ∨ ∃ h : 0 < t.size, wh t[0] = true)) := by
      by_cases hz : t.size = 0
      · exact .inl hz
      · right
        have hp : 0 < t.size := by omega
        refine ⟨hp, ?_⟩
        cases h : wh t[0]
        · exact .inl ⟨hp, h⟩
        · exact .inr ⟨hp, h⟩
    have HSec := Lib.hid second
    clear second
    rcases hcase with hz | ⟨hp, ⟨hp', hw⟩ | ⟨hp', hw⟩⟩
    · have he := empty_of t hz
      have HHd := Lib.hid (HSec.out (.inl hz))
      clear hz
      go_wp2_with fail
      go_loop [0] (fun vs => ∃ u : ByteArray, vs = .string u ∧ u.size ≤ s.size ∧ Hid (trimL (bs u) = trimL (bs s)) ∧ Hid (∀ c, (bs u).head? = some c → wh c = false)) (fun vs => match vs with | .string t => t.size | _ => 0)
      case atStart => exact ⟨t, rfl, htz, hT, HHd⟩
      case round =>
        obtain ⟨u, rfl, huz, hU, hH⟩ := hrel
        by_cases hz : u.size = 0
        · have he2 := empty_of u hz
          have hnil : bs u = [] := List.eq_nil_of_length_eq_zero (by rw [length_bs]; exact hz)
          have HF := Lib.hid (show mkS (trimL (bs s)) = u by rw [← hU.out, hnil]; exact (show mkS [] = u by rw [← hnil, mkS_bs]))
          clear hz hnil
          go_wp2_with fail
          go_ret
          exact ⟨by rw [HF.out]; rfl, rfl⟩
        · have hup : 0 < u.size := by omega
          have he2 := not_empty_of u hup
          have hul : u.size - 1 < u.size := by omega
          have k1 : IntKind.i64.wrap ((u.size : Int) - 1) = ((u.size - 1 : Nat) : Int) := by rw [IntWalk.i64_in _ (by omega)]; omega
          have k2 : ((u.size : Int) - 1).toNat = u.size - 1 := by omega
          have hsp : bs u = (bs u).take (u.size - 1) ++ [u[u.size - 1]'hul] := by
            have h1 := take_snoc (bs u) (u.size - 1) (by rw [length_bs]; exact hul)
            rw [getD_bs u _ hul, show u.size - 1 + 1 = u.size by omega, List.take_of_length_le (by rw [length_bs]; exact Nat.le_refl _)] at h1
            exact h1
          have HC := rWhite_any (u[u.size - 1]'hul) w
          cases hl : wh (u[u.size - 1]'hul)
          · rw [hl] at HC
            have hneat : Neat (bs u) := ⟨hH.out, fun c hc => by
              rw [hsp, List.getLast?_append] at hc
              simp at hc
              rw [← hc]; exact hl⟩
            have HF := Lib.hid (show mkS (trimL (bs s)) = u by rw [← hU.out, neat_trim _ hneat, mkS_bs])
            have HC2 := Lib.hid HC
            clear HC hl hsp hneat hz
            go_wp2_with fail
            refine HC2.out.mono ?_
            rintro e w' ⟨rfl, rfl⟩
            go_wp2_with fail
            go_ret
            exact ⟨by rw [HF.out]; rfl, rfl⟩
          · rw [hl] at HC
            have hbu : bs (u.extract 0 (u.size - 1)) = (bs u).take (u.size - 1) := by rw [bs_extract]; simp
            have hzu : (u.extract 0 (u.size - 1)).size = u.size - 1 := by rw [← length_bs, hbu, List.length_take, length_bs]; omega
            have hU2 : Hid (trimL (bs (u.extract 0 (u.size - 1))) = trimL (bs s)) := by
              show _ = _
              rw [hbu, ← hU.out]
              conv => rhs; rw [hsp]
              rw [tr_snocW _ _ hl]
            have hH2 : Hid (∀ c, (bs (u.extract 0 (u.size - 1))).head? = some c → wh c = false) := by
              intro c hc
              refine hH.out c ?_
              rw [hbu] at hc
              rw [hsp]
              cases hq : (bs u).take (u.size - 1) with
              | nil => rw [hq] at hc; cases hc
              | cons a q => rw [hq] at hc; exact hc
            have HZU := Lib.hid hzu
            have HC2 := Lib.hid HC
            clear HC hl hsp hbu hzu hz
            go_wp2_with fail
            refine HC2.out.mono ?_
            rintro e w' ⟨rfl, rfl⟩
            go_wp2_with fail
            exact ⟨⟨u.extract 0 (u.size - 1), rfl, by rw [HZU.out]; omega, hU2, hH2⟩, by show (u.extract 0 (u.size - 1)).size < u.size; rw [HZU.out]; omega⟩
    · have he := not_empty_of t hp
      have hp2 : (0 : Int) < (t.size : Int) := by omega
      have HHd := Lib.hid (HSec.out (.inr ⟨hp', hw⟩))
      have HC0 := rWhite_any t[0] w
      rw [hw] at HC0
      have HC1 := Lib.hid HC0
      clear HC0 hw
      go_wp2_with fail
      refine HC1.out.mono ?_
      rintro e w' ⟨rfl, rfl⟩
      go_wp2_with fail
      go_loop [0] (fun vs => ∃ u : ByteArray, vs = .string u ∧ u.size ≤ s.size ∧ Hid (trimL (bs u) = trimL (bs s)) ∧ Hid (∀ c, (bs u).head? = some c → wh c = false)) (fun vs => match vs with | .string t => t.size | _ => 0)
      case atStart => exact ⟨t, rfl, htz, hT, HHd⟩
      case round =>
        obtain ⟨u, rfl, huz, hU, hH⟩ := hrel
        by_cases hz : u.size = 0
        · have he2 := empty_of u hz
          have hnil : bs u = [] := List.eq_nil_of_length_eq_zero (by rw [length_bs]; exact hz)
          have HF := Lib.hid (show mkS (trimL (bs s)) = u by rw [← hU.out, hnil]; exact (show mkS [] = u by rw [← hnil, mkS_bs]))
          clear hz hnil
          go_wp2_with fail
          go_ret
          exact ⟨by rw [HF.out]; rfl, rfl⟩
        · have hup : 0 < u.size := by omega
          have he2 := not_empty_of u hup
          have hul : u.size - 1 < u.size := by omega
          have k1 : IntKind.i64.wrap ((u.size : Int) - 1) = ((u.size - 1 : Nat) : Int) := by rw [IntWalk.i64_in _ (by omega)]; omega
          have k2 : ((u.size : Int) - 1).toNat = u.size - 1 := by omega
          have hsp : bs u = (bs u).take (u.size - 1) ++ [u[u.size - 1]'hul] := by
            have h1 := take_snoc (bs u) (u.size - 1) (by rw [length_bs]; exact hul)
            rw [getD_bs u _ hul, show u.size - 1 + 1 = u.size by omega, List.take_of_length_le (by rw [length_bs]; exact Nat.le_refl _)] at h1
            exact h1
          have HC := rWhite_any (u[u.size - 1]'hul) w
          cases hl : wh (u[u.size - 1]'hul)
          · rw [hl] at HC
            have hneat : Neat (bs u) := ⟨hH.out, fun c hc => by
              rw [hsp, List.getLast?_append] at hc
              simp at hc
              rw [← hc]; exact hl⟩
            have HF := Lib.hid (show mkS (trimL (bs s)) = u by rw [← hU.out, neat_trim _ hneat, mkS_bs])
            have HC2 := Lib.hid HC
            clear HC hl hsp hneat hz
            go_wp2_with fail
            refine HC2.out.mono ?_
            rintro e w' ⟨rfl, rfl⟩
            go_wp2_with fail
            go_ret
            exact ⟨by rw [HF.out]; rfl, rfl⟩
          · rw [hl] at HC
            have hbu : bs (u.extract 0 (u.size - 1)) = (bs u).take (u.size - 1) := by rw [bs_extract]; simp
            have hzu : (u.extract 0 (u.size - 1)).size = u.size - 1 := by rw [← length_bs, hbu, List.length_take, length_bs]; omega
            have hU2 : Hid (trimL (bs (u.extract 0 (u.size - 1))) = trimL (bs s)) := by
              show _ = _
              rw [hbu, ← hU.out]
              conv => rhs; rw [hsp]
              rw [tr_snocW _ _ hl]
            have hH2 : Hid (∀ c, (bs (u.extract 0 (u.size - 1))).head? = some c → wh c = false) := by
              intro c hc
              refine hH.out c ?_
              rw [hbu] at hc
              rw [hsp]
              cases hq : (bs u).take (u.size - 1) with
              | nil => rw [hq] at hc; cases hc
              | cons a q => rw [hq] at hc; exact hc
            have HZU := Lib.hid hzu
            have HC2 := Lib.hid HC
            clear HC hl hsp hbu hzu hz
            go_wp2_with fail
            refine HC2.out.mono ?_
            rintro e w' ⟨rfl, rfl⟩
            go_wp2_with fail
            exact ⟨⟨u.extract 0 (u.size - 1), rfl, by rw [HZU.out]; omega, hU2, hH2⟩, by show (u.extract 0 (u.size - 1)).size < u.size; rw [HZU.out]; omega⟩
    · have he := not_empty_of t hp
      have hp2 : (0 : Int) < (t.size : Int) := by omega
      have hp1 : (1 : Int) ≤ (t.size : Int) := by omega
      have HC0 := rWhite_any t[0] w
      rw [hw] at HC0
      have HC1 := Lib.hid HC0
      have hbt : bs (t.extract 1 t.size) = (bs t).drop 1 := by
        rw [bs_extract, List.take_of_length_le (by rw [List.length_drop, length_bs]; exact Nat.le_refl _)]
      have hzt : (t.extract 1 t.size).size = t.size - 1 := by rw [← length_bs, hbt, List.length_drop, length_bs]
      have hT2 : Hid (trimL (bs (t.extract 1 t.size)) = trimL (bs s)) := by
        show _ = _
        have h1 := bs_drop t 0 hp
        rw [List.drop_zero] at h1
        rw [hbt, ← hT.out]
        conv => rhs; rw [h1]
        rw [tr_consW _ _ hw]
      have HZT := Lib.hid hzt
      clear HC0 hw hbt hzt
      go_wp2_with fail
      refine HC1.out.mono ?_
      rintro e w' ⟨rfl, rfl⟩
      go_wp2_with fail
      exact ⟨⟨t.extract 1 t.size, rfl, by rw [HZT.out]; omega, hT2⟩, by show (t.extract 1 t.size).size < t.size; rw [HZT.out]; omega⟩
end Tk
end Go.Proofs.YtnbipbeeengiaaaGreatDoor
