/- token.Quote: what a text looks like when it is quoted. -/
import Derived.Test.YtapnlopeipdjmaaGreatDoorAll
import Derived.Test.YtapnlopeipdjmaaGreatDoorBldB
namespace Go.Proofs.YtapnlopeipdjmaaGreatDoor
open Go.RowKit
namespace Tk

def esc (c : UInt8) : Bs := if c = 34 ∨ c = 92 then [92, c] else [c]
theorem esc_len : ∀ l : Bs, (l.flatMap esc).length ≤ 2 * l.length
  | [] => by simp
  | c :: r => by
    have := esc_len r
    have h : (esc c).length ≤ 2 := by unfold esc; split <;> simp
    rw [List.flatMap_cons, List.length_append, List.length_cons]
    omega
theorem esc_take (s : ByteArray) (i : Nat) (h : i < s.size) : ((bs s).take (i + 1)).flatMap esc = ((bs s).take i).flatMap esc ++ esc s[i] := by
  have hd : (bs s).take (i + 1) = (bs s).take i ++ [s[i]] := by
    rw [List.take_add_one, List.getElem?_eq_getElem (by rw [length_bs]; exact h)]; rfl
  rw [hd, List.flatMap_append]; simp
def quoteL (l : Bs) : Bs := 34 :: (l.flatMap esc ++ [34])

set_option maxHeartbeats 1000000 in
set_option maxRecDepth 100000 in
theorem quote_bad (s : ByteArray) (w : World) (hs : s.size ≤ 1099511627776) (h : allL 1 (bs s) = false) :
    Calls Tryz.prog 5 #[.string s] w fun e w' => e = .returned (.tuple #[.string .empty, .int .i64 4]) ∧ Below w.heap.size w w' := by
  have H := all_any s 1 w hs
  rw [h] at H
  have HA := Lib.hid H
  clear H
  go_enter Tryz.func5, Tryz.ntmps5
  go_wp2_with fail
  refine HA.out.mono ?_
  rintro e w1 ⟨rfl, hb⟩
  have HB := Lib.hid hb
  clear hb
  go_wp2_with fail
  go_ret2
  exact ⟨rfl, HB.out⟩

set_option maxHeartbeats 1000000 in
set_option maxRecDepth 100000 in
theorem quote_ok (s : ByteArray) (w : World) (hs : s.size ≤ 1099511627) (h : allL 1 (bs s) = true) :
    Calls Tryz.prog 5 #[.string s] w fun e w' => e = .returned (.tuple #[.string (mkS (quoteL (bs s))), .int .i64 0]) ∧ Below w.heap.size w w' := by
  have H := all_any s 1 w (by omega)
  rw [h] at H
  have HA := Lib.hid H
  clear H
  go_enter Tryz.func5, Tryz.ntmps5
  go_wp2_with fail
  refine HA.out.mono ?_
  rintro e w1 ⟨rfl, hb⟩
  have HB := Lib.hid hb
  clear hb
  go_wp2_with fail
  have hB0 := Lib.fresh_isBuilder 43 5 w1
  have HB1 := Lib.hid (HB.out.alloc HB.out.size (Obj.cells #[Value.pointer none, Value.slice none 0 0] 43))
  have hsz : w1.heap.size ≤ (w1.alloc (Obj.cells #[Value.pointer none, Value.slice none 0 0] 43)).heap.size := by simp
  have hw1 := HB.out.size
  have H1 := Lib.hid (writeByte w1.heap.size w1.heap.size [] 34 _ hB0 (by simp) hsz)
  clear hB0
  generalize w1.alloc (Obj.cells #[Value.pointer none, Value.slice none 0 0] 43) = W at *
  generalize w1.heap.size = B at *
  refine H1.out.mono ?_
  rintro e w2 ⟨rfl, hi, hb⟩
  have HI := Lib.hid hi
  have HB2 := Lib.hid (HB1.out.trans (hb.mono hw1))
  have hBs : B ≤ w2.heap.size := Nat.le_trans hsz hb.size
  clear hi hb H1 hsz HB1
  go_wp2_with fail
  go_loopw [12] (fun v wr => ∃ i : Nat, i ≤ s.size ∧ v = .int .i64 i ∧ Hid (IsB B B (34 :: ((bs s).take i).flatMap esc) wr) ∧ Hid (Below w.heap.size w wr) ∧ B ≤ wr.heap.size) (fun v _ => s.size - (RowKit.intOf v).toNat)
  case atStart => exact ⟨0, Nat.zero_le _, rfl, HI.out, HB2.out, hBs⟩
  case round =>
    obtain ⟨i, hi, rfl, hI, hB3, hBw⟩ := hrel
    rename World => W3
    have hlen : (34 :: ((bs s).take i).flatMap esc).length ≤ 2199023256 := by
      have := esc_len ((bs s).take i)
      rw [List.length_take, length_bs] at this
      rw [List.length_cons]; omega
    by_cases hlt : i < s.size
    · have hnext := esc_take s i hlt
      by_cases h34 : ((s[i].toNat : Int) == 34) = true ∨ ((s[i].toNat : Int) == 92) = true
      · have he : esc s[i] = [92, s[i]] := by
          unfold esc
          rw [if_pos]
          rcases h34 with h | h
          · exact .inl (UInt8.toNat_inj.1 (show s[i].toNat = 34 from by have h5 : (s[i].toNat : Int) = 34 := eq_of_beq h; omega))
          · exact .inr (UInt8.toNat_inj.1 (show s[i].toNat = 92 from by have h5 : (s[i].toNat : Int) = 92 := eq_of_beq h; omega))
        rw [he] at hnext
        have HX := Lib.hid hnext
        clear hnext he
        have hnot : ((s[i].toNat : Int) == 34) = true ∨ (((s[i].toNat : Int) == 34) = false ∧ ((s[i].toNat : Int) == 92) = true) := by
          rcases h34 with h | h
          · exact .inl h
          · exact .inr ⟨by simp at h ⊢; omega, h⟩
        clear h34
        have H2 := Lib.hid (writeByte B B _ 92 W3 hI.out (by omega) hBw)
        generalize ((bs s).take i).flatMap esc = pre at *
        rcases hnot with h | ⟨h, h'⟩
        all_goals
          go_wp2_with fail
          refine H2.out.mono ?_
          rintro e w4 ⟨rfl, hi4, hb4⟩
          have H3 := Lib.hid (writeByte B B _ s[i] w4 hi4 (by simp at hlen ⊢; omega) (Nat.le_trans hBw hb4.size))
          have HB4 := Lib.hid (hB3.out.trans (hb4.mono hw1))
          have hBw4 := Nat.le_trans hBw hb4.size
          clear hi4 hb4
          go_wp2_with fail
          refine H3.out.mono ?_
          rintro e w5 ⟨rfl, hi5, hb5⟩
          have HI5 := Lib.hid hi5
          have HB5 := Lib.hid (HB4.out.trans (hb5.mono hw1))
          have hBw5 := Nat.le_trans hBw4 hb5.size
          clear hi5 hb5
          go_wp2_with fail
          refine ⟨⟨i + 1, by omega, by go_num, ?_, HB5.out, hBw5⟩, by simp [RowKit.intOf]; omega⟩
          have := HI5.out
          rw [HX.out]
          exact Lib.hid (by simpa using this)
      · have h1 : ((s[i].toNat : Int) == 34) = false := by
          rcases hh : ((s[i].toNat : Int) == 34) with _ | _
          · rfl
          · exact absurd (.inl hh) h34
        have h2 : ((s[i].toNat : Int) == 92) = false := by
          rcases hh : ((s[i].toNat : Int) == 92) with _ | _
          · rfl
          · exact absurd (.inr hh) h34
        have he : esc s[i] = [s[i]] := by
          unfold esc
          rw [if_neg]
          rintro (h | h)
          · rw [h] at h1; simp at h1
          · rw [h] at h2; simp at h2
        rw [he] at hnext
        have HX := Lib.hid hnext
        clear hnext he h34
        have H2 := Lib.hid (writeByte B B _ s[i] W3 hI.out (by omega) hBw)
        generalize ((bs s).take i).flatMap esc = pre at *
        go_wp2_with fail
        refine H2.out.mono ?_
        rintro e w5 ⟨rfl, hi5, hb5⟩
        have HI5 := Lib.hid hi5
        have HB5 := Lib.hid (hB3.out.trans (hb5.mono hw1))
        have hBw5 := Nat.le_trans hBw hb5.size
        clear hi5 hb5
        go_wp2_with fail
        refine ⟨⟨i + 1, by omega, by go_num, ?_, HB5.out, hBw5⟩, by simp [RowKit.intOf]; omega⟩
        have := HI5.out
        rw [HX.out]
        exact Lib.hid (by simpa using this)
    · have hall : (bs s).take i = bs s := List.take_of_length_le (by rw [length_bs]; omega)
      rw [hall] at hI hlen
      have H2 := Lib.hid (writeByte B B _ 34 W3 hI.out (by omega) hBw)
      go_wp2_with fail
      refine H2.out.mono ?_
      rintro e w4 ⟨rfl, hi4, hb4⟩
      have HB4 := Lib.hid (hB3.out.trans (hb4.mono hw1))
      have H3 := Lib.hid (Tryz.Builder_String_any B B _ w4 hi4 (Nat.le_trans hBw hb4.size))
      clear hi4 hb4
      go_wp2_with fail
      refine H3.out.mono ?_
      rintro e w5 ⟨rfl, hb5⟩
      have HB5 := Lib.hid (HB4.out.trans (hb5.mono hw1))
      clear hb5
      go_wp2_with fail
      go_ret2
      exact ⟨rfl, HB5.out⟩
end Tk
end Go.Proofs.YtapnlopeipdjmaaGreatDoor
