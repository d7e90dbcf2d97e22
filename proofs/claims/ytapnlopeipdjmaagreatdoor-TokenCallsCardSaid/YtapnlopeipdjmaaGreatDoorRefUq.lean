/- The document's own Unquote. -/
import Derived.Test.YtapnlopeipdjmaaGreatDoorRefQ
import Derived.Test.YtapnlopeipdjmaaGreatDoorUq0
import Derived.Laws.BytesArg
namespace Go.Proofs.YtapnlopeipdjmaaGreatDoor
open Go.RowKit
namespace Tk

def uqT (l : Bs) : Bs := if unqOk l then unq (l.drop 1) else []
def uqC (l : Bs) : Int := if unqOk l then 0 else 4
def inT (o : Option Bs) : Bs := o.getD []
def inC (o : Option Bs) : Int := if o.isSome then 0 else 4
def UqPost (l : Bs) (w : World) (e : Ending) (w' : World) : Prop := e = .returned (.tuple #[.string (mkS (uqT l)), .int .i64 (uqC l)]) ∧ Below w.heap.size w w'
theorem uq_no (l : Bs) (h : unqOk l = false) : (Ending.returned (.tuple #[.string .empty, .int .i64 4])) = .returned (.tuple #[.string (mkS (uqT l)), .int .i64 (uqC l)]) := by unfold uqT uqC; rw [h]; rfl

set_option maxHeartbeats 4000000 in
set_option maxRecDepth 100000 in
theorem runq_bad (s : ByteArray) (w : World) (hs : s.size ≤ 1000000000) (h : s.size < 2 ∨ (2 ≤ s.size ∧ (bs s).head? ≠ some 34) ∨ (2 ≤ s.size ∧ (bs s).head? = some 34 ∧ (bs s).getLast? ≠ some 34) ∨ (2 ≤ s.size ∧ (bs s).head? = some 34 ∧ (bs s).getLast? = some 34 ∧ allL 1 (bs s) = false)) :
    Calls Tryz.prog 8 #[.string s] w fun e w' => e = .returned (.tuple #[.string .empty, .int .i64 4]) ∧ Below w.heap.size w w' := by
  rcases h with h | ⟨h2, h⟩ | ⟨h2, h0, h⟩ | ⟨h2, h0, hl, h⟩
  · go_enter Tryz.func8, Tryz.ntmps8
    go_wp2_with fail
    go_ret2
    exact ⟨rfl, Below.refl _ _⟩
  · have hp : 0 < s.size := by omega
    rw [bs_head s hp] at h
    have hb : ((s[0].toNat : Int) != 34) = true := by
      rw [bne_iff_ne]
      intro e
      exact h (congrArg some (UInt8.toNat_inj.1 (show s[0].toNat = 34 by omega)))
    clear h
    go_enter Tryz.func8, Tryz.ntmps8
    go_wp2_with fail
    go_ret2
    exact ⟨rfl, Below.refl _ _⟩
  · have hp : 0 < s.size := by omega
    have hp1 : s.size - 1 < s.size := by omega
    rw [bs_head s hp] at h0
    injection h0 with h0
    have hb : ((s[0].toNat : Int) != 34) = false := by rw [h0]; rfl
    have hlast : (bs s).getLast? = some (s[s.size - 1]'hp1) := by
      rw [List.getLast?_eq_getElem?, length_bs, List.getElem?_eq_getElem (by rw [length_bs]; exact hp1)]; rfl
    rw [hlast] at h
    have hb1 : (((s[s.size - 1]'hp1).toNat : Int) != 34) = true := by
      rw [bne_iff_ne]
      intro e
      exact h (congrArg some (UInt8.toNat_inj.1 (show (s[s.size - 1]'hp1).toNat = 34 by omega)))
    have k1 : IntKind.i64.wrap ((s.size : Int) - 1) = ((s.size - 1 : Nat) : Int) := by rw [IntWalk.i64_in _ (by omega)]; omega
    have k2 : ((s.size : Int) - 1).toNat = s.size - 1 := by omega
    clear h h0 hlast
    go_enter Tryz.func8, Tryz.ntmps8
    go_wp2_with fail
    go_ret2
    exact ⟨rfl, Below.refl _ _⟩
  · have hp : 0 < s.size := by omega
    have hp1 : s.size - 1 < s.size := by omega
    rw [bs_head s hp] at h0
    injection h0 with h0
    have hb : ((s[0].toNat : Int) != 34) = false := by rw [h0]; rfl
    have hlast : (bs s).getLast? = some (s[s.size - 1]'hp1) := by
      rw [List.getLast?_eq_getElem?, length_bs, List.getElem?_eq_getElem (by rw [length_bs]; exact hp1)]; rfl
    rw [hlast] at hl
    injection hl with hl
    have hb1 : (((s[s.size - 1]'hp1).toNat : Int) != 34) = false := by rw [hl]; rfl
    have k1 : IntKind.i64.wrap ((s.size : Int) - 1) = ((s.size - 1 : Nat) : Int) := by rw [IntWalk.i64_in _ (by omega)]; omega
    have k2 : ((s.size : Int) - 1).toNat = s.size - 1 := by omega
    have HC := rChars_any s w (by omega)
    rw [h] at HC
    have HC2 := Lib.hid HC
    clear h h0 hl hlast HC
    go_enter Tryz.func8, Tryz.ntmps8
    go_wp2_with fail
    refine HC2.out.mono ?_
    rintro e w' ⟨rfl, rfl⟩
    go_wp2_with fail
    go_ret2
    exact ⟨rfl, Below.refl _ _⟩

theorem conv_own {w : World} {B : Nat} {v : Value} {P : Bs} (h : w.ownsRow B 5 1 v P.length (Lib.byteCells P)) : ∃ a c, v = .slice a P.length c ∧ (convert 41 9 (.slice a P.length c)).run Tryz.prog w = .ok (.string (mkS P)) w := by
  rcases h.2 with ⟨hv, hn⟩ | ⟨g, cap, cur, hv, _⟩
  · have hP : P = [] := List.eq_nil_of_length_eq_zero hn
    subst hP
    exact ⟨none, 0, hv, run_convert_bytes_nil w 41 5 Tryz.underlying41 Tryz.underlying5 0 0 9 Tryz.underlying9⟩
  · refine ⟨some ⟨g, 0, none⟩, cap, hv, ?_⟩
    exact run_convert_bytes_back (P := Tryz.prog) w 41 9 5 ⟨g, 0, none⟩ cap P Tryz.underlying41 Tryz.underlying5 Tryz.underlying9 (fun j hj => h.cells (g := g) (by rw [hv]; rfl) j _ (by simp [Lib.byteCells, hj]))

set_option maxRecDepth 100000 in
set_option maxHeartbeats 16000000 in
theorem runq_main (s : ByteArray) (t : Bs) (w : World) (hs : s.size ≤ 1000000000) (hst : bs s = 34 :: (t ++ [34])) (ha : allL 1 (bs s) = true) :
    Calls Tryz.prog 8 #[.string s] w fun e w' => e = .returned (.tuple #[.string (mkS (inT (inn t))), .int .i64 (inC (inn t))]) ∧ Below w.heap.size w w' := by
  obtain ⟨i0, hi, hz0, hz1, hz2⟩ := info_parts byteInf
  have hsz : s.size = t.length + 2 := by rw [← length_bs, hst]; simp
  have hp : 0 < s.size := by omega
  have hp1 : s.size - 1 < s.size := by omega
  have h0 : s[0] = 34 := by
    have := bs_head s hp
    rw [hst] at this
    injection this with this
    exact this.symm
  have hl : s[s.size - 1]'hp1 = 34 := by
    have h1 : (bs s).getLast? = some (s[s.size - 1]'hp1) := by
      rw [List.getLast?_eq_getElem?, length_bs, List.getElem?_eq_getElem (by rw [length_bs]; exact hp1)]; rfl
    have h2 : (bs s).getLast? = some 34 := by
      rw [hst, show 34 :: (t ++ [34]) = (34 :: t) ++ [34] from rfl, List.getLast?_append]; rfl
    rw [h2] at h1
    injection h1 with h1
    exact h1.symm
  have hb : ((s[0].toNat : Int) != 34) = false := by rw [h0]; rfl
  have hb1 : (((s[s.size - 1]'hp1).toNat : Int) != 34) = false := by rw [hl]; rfl
  have k1 : IntKind.i64.wrap ((s.size : Int) - 1) = ((s.size - 1 : Nat) : Int) := by rw [IntWalk.i64_in _ (by omega)]; omega
  have k2 : ((s.size : Int) - 1).toNat = s.size - 1 := by omega
  have hu : bs (s.extract 1 (s.size - 1)) = t := by
    rw [bs_extract, hst, hsz]
    simp
  have HC := rChars_any s w (by omega)
  rw [ha] at HC
  have HC2 := Lib.hid HC
  have HU := Lib.hid hu
  have hul : (s.extract 1 (s.size - 1)).size = t.length := by rw [← length_bs, hu]
  have g1 : 2 ≤ s.size := by omega
  have HUL := Lib.hid hul
  clear hst ha h0 hl hu HC hul hsz
  go_enter Tryz.func8, Tryz.ntmps8
  go_wp2_with fail
  refine HC2.out.mono ?_
  rintro e w' ⟨rfl, rfl⟩
  go_wp2_with fail
  have hus : (s.extract 1 (s.size - 1)).size ≤ 1000000000 := by rw [HUL.out]; have := HUL.out; simp only [ByteArray.size_extract] at this; omega
  generalize s.extract 1 (s.size - 1) = u at *
  clear hb hb1 k1 k2
  go_loopw [4, 5] (fun vo vi wr => ∃ (i : Nat) (P : Bs), i ≤ u.size ∧ P.length ≤ i ∧ vi = .int .i64 i ∧ Hid (wr.ownsRow w.heap.size 5 1 vo P.length (Lib.byteCells P)) ∧ Hid (Below w.heap.size w wr) ∧ Hid (inn t = (inn ((bs u).drop i)).map (P ++ ·))) (fun _ vi _ => u.size - (RowKit.intOf vi).toNat)
  case atStart =>
    refine ⟨0, [], Nat.zero_le _, Nat.le_refl _, rfl, World.ownsRow_nil _ _ _ _, Below.refl _ _, ?_⟩
    show _ = _
    rw [List.drop_zero, HU.out]
    cases inn t <;> rfl
  case round =>
    obtain ⟨i, P, hi', hP, rfl, HO, HB, HI⟩ := hrel
    rename World => W
    by_cases hlt : i < u.size
    · have D := Lib.hid (bs_drop u i hlt)
      by_cases h34 : u[i] = 34
      · have hno : inn t = none := by rw [HI.out, D.out, h34, inn_q]; rfl
        have HN := Lib.hid hno
        have b34 : ((u[i].toNat : Int) == 34) = true := by rw [h34]; rfl
        clear hno h34
        go_wp2_with fail
        go_ret2
        exact ⟨by rw [HN.out]; rfl, HB.out⟩
      · have b34 : ((u[i].toNat : Int) == 34) = false := by
          rw [beq_eq_false_iff_ne]
          intro e
          exact h34 (UInt8.toNat_inj.1 (show u[i].toNat = 34 by omega))
        by_cases h92 : u[i] = 92
        · have b92 : ((u[i].toNat : Int) == 92) = true := by rw [h92]; rfl
          by_cases hl2 : i + 1 < u.size
          · have D2 := Lib.hid (bs_drop u (i + 1) hl2)
            have hnx : inn t = (inn ((bs u).drop (i + 2))).map ((P ++ [u[i + 1]]) ++ ·) := by
              rw [HI.out, D.out, h92, D2.out, inn_b, Option.map_map]
              congr 1
              funext z; simp
            have HN := Lib.hid hnx
            have be : (((i : Int) + 1) == (u.size : Int)) = false := by rw [beq_eq_false_iff_ne]; omega
            have hi1 : (0 : Int) ≤ (i : Int) + 1 := by omega
            have ht1 : ((i : Int) + 1).toNat = i + 1 := by omega
            clear hnx h34 h92
            go_wp2_with (at_builtin; refine wpList_append_own _ rfl _ _ 41 rfl w.heap.size 5 i0 (.int .u8 0) 1 1 Tryz.underlying41 hi hz0 hz1 hz2 rfl (by decide) _ _ _ rfl (HO.out.alloc _) ⟨W.heap.size, 0, none⟩ 1 1 [.int .u8 u[i + 1].toNat] rfl rfl ?c1 ?c2 ?c3 ?c4 ?c5 ?_)
            case c1 => exact fun j x hj => cells_newQ W #[.int .u8 u[i + 1].toNat] 5 j x hj
            case c2 => intro x hx; simp at hx; subst hx; rfl
            case c3 => unfold maxLen; omega
            case c4 => omega
            case c5 => have := HB.out.size; simp; omega
            intro v' w2 hown' hgrow _
            have HO2 : Hid (w2.ownsRow w.heap.size 5 1 v' (P ++ [u[i + 1]]).length (Lib.byteCells (P ++ [u[i + 1]]))) := by
              show w2.ownsRow w.heap.size 5 1 v' (P ++ [u[i + 1]]).length (Lib.byteCells (P ++ [u[i + 1]]))
              rw [bytesQ_app, List.length_append]
              exact hown'
            have HB2 := Lib.hid (HB.out.trans (((Below.refl w.heap.size W).alloc HB.out.size _).trans (below_of_grown hgrow (HO.out.alloc _) (by have := HB.out.size; simp; omega))))
            clear hown' hgrow
            go_wp2_with fail
            exact ⟨⟨i + 2, P ++ [u[i + 1]], by omega, by simp; omega, by go_num, HO2, HB2, HN⟩, by simp [RowKit.intOf]; omega⟩
          · have hno : inn t = none := by
              rw [HI.out, D.out, h92, List.drop_eq_nil_of_le (by rw [length_bs]; omega), inn_b1]; rfl
            have HN := Lib.hid hno
            have be : (((i : Int) + 1) == (u.size : Int)) = true := by rw [beq_iff_eq]; omega
            clear hno h34 h92
            go_wp2_with fail
            go_ret2
            exact ⟨by rw [HN.out]; rfl, HB.out⟩
        · have b92 : ((u[i].toNat : Int) == 92) = false := by
            rw [beq_eq_false_iff_ne]
            intro e
            exact h92 (UInt8.toNat_inj.1 (show u[i].toNat = 92 by omega))
          have hnx : inn t = (inn ((bs u).drop (i + 1))).map ((P ++ [u[i]]) ++ ·) := by
            rw [HI.out, D.out, inn_o _ _ h34 h92, Option.map_map]
            congr 1
            funext z; simp
          have HN := Lib.hid hnx
          clear hnx h34 h92
          go_wp2_with (at_builtin; refine wpList_append_own _ rfl _ _ 41 rfl w.heap.size 5 i0 (.int .u8 0) 1 1 Tryz.underlying41 hi hz0 hz1 hz2 rfl (by decide) _ _ _ rfl (HO.out.alloc _) ⟨W.heap.size, 0, none⟩ 1 1 [.int .u8 u[i].toNat] rfl rfl ?c1 ?c2 ?c3 ?c4 ?c5 ?_)
          case c1 => exact fun j x hj => cells_newQ W #[.int .u8 u[i].toNat] 5 j x hj
          case c2 => intro x hx; simp at hx; subst hx; rfl
          case c3 => unfold maxLen; omega
          case c4 => omega
          case c5 => have := HB.out.size; simp; omega
          intro v' w2 hown' hgrow _
          have HO2 : Hid (w2.ownsRow w.heap.size 5 1 v' (P ++ [u[i]]).length (Lib.byteCells (P ++ [u[i]]))) := by
            show w2.ownsRow w.heap.size 5 1 v' (P ++ [u[i]]).length (Lib.byteCells (P ++ [u[i]]))
            rw [bytesQ_app, List.length_append]
            exact hown'
          have HB2 := Lib.hid (HB.out.trans (((Below.refl w.heap.size W).alloc HB.out.size _).trans (below_of_grown hgrow (HO.out.alloc _) (by have := HB.out.size; simp; omega))))
          clear hown' hgrow
          go_wp2_with fail
          exact ⟨⟨i + 1, P ++ [u[i]], by omega, by simp; omega, by go_num, HO2, HB2, HN⟩, by simp [RowKit.intOf]; omega⟩
    · have hfin : inn t = some P := by
        rw [HI.out, List.drop_eq_nil_of_le (by rw [length_bs]; omega)]
        simp [inn]
      have HF := Lib.hid hfin
      obtain ⟨a, c, hv, hconv⟩ := conv_own HO.out
      subst hv
      obtain ⟨q, hq⟩ : ∃ q, q = mkS P := ⟨_, rfl⟩
      rw [← hq] at hconv
      have HQ := Lib.hid hq
      clear hfin hq
      go_wp2_with fail
      go_ret2
      refine ⟨?_, HB.out⟩
      rw [HF.out]
      show _ = Ending.returned (.tuple #[.string (mkS P), .int .i64 0])
      rw [← HQ.out]; rfl

theorem runquote_any (s : ByteArray) (w : World) (hs : s.size ≤ 1000000000) : Calls Tryz.prog 8 #[.string s] w (UqPost (bs s) w) := by
  have bad : unqOk (bs s) = false → (s.size < 2 ∨ (2 ≤ s.size ∧ (bs s).head? ≠ some 34) ∨ (2 ≤ s.size ∧ (bs s).head? = some 34 ∧ (bs s).getLast? ≠ some 34) ∨ (2 ≤ s.size ∧ (bs s).head? = some 34 ∧ (bs s).getLast? = some 34 ∧ allL 1 (bs s) = false)) → Calls Tryz.prog 8 #[.string s] w (UqPost (bs s) w) := fun h hc =>
    (runq_bad s w hs hc).mono fun e w' ⟨he, hb⟩ => ⟨he.trans (uq_no _ h), hb⟩
  by_cases h2 : s.size < 2
  · exact bad (uq_short _ (by rw [length_bs]; exact h2)) (.inl h2)
  · have hl2 : 2 ≤ (bs s).length := by rw [length_bs]; omega
    by_cases hh : (bs s).head? = some 34
    · by_cases hg : (bs s).getLast? = some 34
      · obtain ⟨t, ht⟩ : ∃ t, bs s = 34 :: (t ++ [34]) := by
          cases hb : bs s with
          | nil => rw [hb] at hh; cases hh
          | cons c r =>
            rw [hb] at hh hg hl2
            simp at hh
            subst hh
            have hr : r ≠ [] := fun e => by rw [e] at hl2; simp at hl2
            refine ⟨r.dropLast, ?_⟩
            have h1 := List.dropLast_concat_getLast hr
            have h3 : r.getLast hr = 34 := by
              rw [List.getLast?_cons] at hg
              have : r.getLast? = some (r.getLast hr) := List.getLast?_eq_some_getLast hr
              rw [this] at hg
              simpa using hg
            rw [h3] at h1
            rw [h1]
        by_cases ha : allL 1 (bs s) = true
        · have hm := runq_main s t w hs ht ha
          rw [ht] at ha
          obtain ⟨e1, e2⟩ := uq_is t ha
          refine hm.mono fun e w' ⟨he, hb⟩ => ⟨he.trans ?_, hb⟩
          unfold uqT uqC inT inC
          rw [ht, e1]
          cases hi : inn t with
          | none => rfl
          | some v =>
            have := e2 v hi
            show Ending.returned (.tuple #[.string (mkS v), .int .i64 0]) = Ending.returned (.tuple #[.string (mkS (unq (t ++ [34]))), .int .i64 0])
            rw [this]
        · have ha' : allL 1 (bs s) = false := by simpa using ha
          exact bad (uq_chars _ ha') (.inr (.inr (.inr ⟨by omega, hh, hg, ha'⟩)))
      · refine bad ?_ (.inr (.inr (.inl ⟨by omega, hh, hg⟩)))
        cases hb : bs s with
        | nil => rw [hb] at hh; cases hh
        | cons c r =>
          rw [hb] at hh hg hl2
          simp at hh
          subst hh
          have hr : r ≠ [] := fun e => by rw [e] at hl2; simp at hl2
          have h1 := List.dropLast_concat_getLast hr
          have h3 : r.getLast hr ≠ 34 := by
            intro e
            apply hg
            rw [List.getLast?_cons, List.getLast?_eq_some_getLast hr, e]; rfl
          rw [← h1]
          exact uq_last _ _ h3
    · refine bad ?_ (.inr (.inl ⟨by omega, hh⟩))
      cases hb : bs s with
      | nil => rfl
      | cons c r =>
        refine uq_first c r fun e => hh ?_
        rw [hb, e]; rfl
end Tk
end Go.Proofs.YtapnlopeipdjmaaGreatDoor
