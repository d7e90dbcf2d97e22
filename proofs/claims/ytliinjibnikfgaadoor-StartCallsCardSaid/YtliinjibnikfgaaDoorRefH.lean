/- The document's own hosts: name, port, Host. -/
import Derived.Test.YtliinjibnikfgaaDoorRefH0
import Derived.Test.YtliinjibnikfgaaDoorRefA
namespace Go.Proofs.YtliinjibnikfgaaDoor
open Go.RowKit
namespace Tk

def RI (v : Int) (w : World) (e : Ending) (w' : World) : Prop := e = .returned (.int .i64 v) ∧ w = w'

theorem retI {a b : Int} (h : a = b) : Ending.returned (.int .i64 a) = .returned (.int .i64 b) := by rw [h]

theorem marks_at (k : Nat) (h : k < 16) : (⟨#[45, 46, 95, 126, 33, 36, 38, 39, 40, 41, 42, 43, 44, 59, 61, 37]⟩ : ByteArray)[k] = marksL.getD k 0 := by
  match k, h with
  | 0, _ | 1, _ | 2, _ | 3, _ | 4, _ | 5, _ | 6, _ | 7, _ | 8, _ | 9, _ | 10, _ | 11, _ | 12, _ | 13, _ | 14, _ | 15, _ => rfl
  | k + 16, h => omega
theorem beq_u8 (a b : UInt8) : ((a.toNat : Int) == (b.toNat : Int)) = (a == b) := by
  rw [Bool.eq_iff_iff, beq_iff_eq, beq_iff_eq, ← UInt8.toNat_inj]; omega
theorem marks_next (c : UInt8) (k : Nat) (h : k < 16) : (marksL.take (k + 1)).contains c = ((marksL.take k).contains c || (c == marksL.getD k 0)) := by
  rw [take_snoc marksL k (by simpa [marksL] using h), List.contains_eq_any_beq, List.contains_eq_any_beq, List.any_append]
  simp
theorem takeW_next (p : UInt8 → Bool) (l : Bs) (i : Nat) (hi : i < l.length) (h1 : (l.take i).all p = true) (h2 : p (l.getD i 0) = false) : (l.takeWhile p).length = i := by
  have e : l = l.take i ++ l.getD i 0 :: l.drop (i + 1) := by rw [← drop_cons l i hi, List.take_append_drop]
  have := takeWhile_stop p (l.take i) (l.getD i 0) (l.drop (i + 1)) h1 h2
  rw [← e] at this
  rw [this, List.length_take]; omega
theorem takeW_end (p : UInt8 → Bool) (l : Bs) (h1 : l.all p = true) : (l.takeWhile p).length = l.length := by rw [takeWhile_whole p l h1]

/-- is it a byte of a name, as far as the first k marks tell -/
def okAt (b : Bool) (c : UInt8) (k : Nat) : Bool := b || (marksL.take k).contains c
theorem okAt_0 (b : Bool) (c : UInt8) : okAt b c 0 = b := by unfold okAt; simp
theorem okAt_next (b : Bool) (c : UInt8) (k : Nat) (h : k < 16) : okAt b c (k + 1) = (okAt b c k || (c == marksL.getD k 0)) := by unfold okAt; rw [marks_next c k h, Bool.or_assoc]
theorem okAt_16 (c : UInt8) : okAt (isLet c || isDig c) c 16 = inName c := by unfold okAt inName; rw [show marksL.take 16 = marksL from rfl]

set_option maxHeartbeats 8000000 in
set_option maxRecDepth 100000 in
theorem rname_plain (s : ByteArray) (w : World) (hs : s.size ≤ 1099511627) (hp : 0 < s.size) (h91 : s[0] ≠ 91) :
    Calls Tryd.prog 117 #[.string s] w (RI (nmI (bs s)) w) := by
  have hV : nmI (bs s) = if nmLen (bs s) = 0 then -1 else (nmLen (bs s) : Int) := by
    unfold nmI; rw [if_neg (by rw [bs_head s hp]; simpa using h91)]
  have HV := Lib.hid hV
  have he := not_empty_of s hp
  have e0 : ((s[0].toNat : Int) == 91) = false := by
    rw [beq_eq_false_iff_ne]
    intro e
    exact h91 (UInt8.toNat_inj.1 (show s[0].toNat = 91 by omega))
  have hp' : (0 : Int) < (s.size : Int) := by omega
  clear hV h91
  go_enter Tryd.func117, Tryd.ntmps117
  go_wp2_with fail
  go_loop [3, 4, 5, 6] (fun vi _ _ _ => ∃ i : Nat, i ≤ s.size ∧ vi = .int .i64 i ∧ Hid (((bs s).take i).all inName = true)) (fun vi _ _ _ => s.size - (RowKit.intOf vi).toNat)
  case atStart => exact ⟨0, Nat.zero_le _, rfl, rfl⟩
  case round =>
    obtain ⟨i, hi, rfl, hI⟩ := hrel
    by_cases hlt : i < s.size
    · have hnx : ((bs s).take (i + 1)).all inName = (((bs s).take i).all inName && inName s[i]) := by
        rw [take_snoc (bs s) i (by rw [length_bs]; exact hlt), List.all_append, getD_bs s i hlt]; simp
      have hin : inName s[i] = ((isLet s[i] || isDig s[i]) || (marksL.take 16).contains s[i]) := by
        unfold inName
        rw [show marksL.take 16 = marksL from rfl]
      have hst : inName s[i] = false → (nmLen (bs s)) = i := fun h => by
        unfold nmLen
        exact takeW_next inName (bs s) i (by rw [length_bs]; exact hlt) hI.out (by rw [getD_bs s i hlt]; exact h)
      have HNX := Lib.hid hnx
      have HIN := Lib.hid hin
      have HST := Lib.hid hst
      have HLt := rLetter_any s[i] w
      have HDg := rDigit_any s[i] w
      clear hnx hin hst
      have h16 := okAt_16 s[i]
      have H16 := Lib.hid h16
      clear h16
      cases hl : isLet s[i]
      · rw [hl, Bool.false_or] at H16
        rw [hl] at HLt
        have HLt2 := Lib.hid HLt
        have HDg2 := Lib.hid HDg
        clear HLt HDg hl HIN
        generalize isDig s[i] = b0 at *
        go_wp2_with fail
        refine HLt2.out.mono ?_
        rintro e w' ⟨rfl, rfl⟩
        go_wp2_with fail
        refine HDg2.out.mono ?_
        rintro e w' ⟨rfl, rfl⟩
        go_wp2_with fail
        go_loop [5, 6] (fun vo vk => ∃ k : Nat, k ≤ 16 ∧ vk = .int .i64 k ∧ vo = .bool (okAt b0 s[i] k)) (fun _ vk => 16 - (RowKit.intOf vk).toNat)
        case atStart => exact ⟨0, by omega, rfl, by rw [okAt_0]⟩
        case round =>
          obtain ⟨k, hk, rfl, rfl⟩ := hrel
          by_cases hk2 : k < 16
          · have hnx2 := okAt_next b0 s[i] k hk2
            have HNX2 := Lib.hid hnx2
            clear hnx2
            cases ho : okAt b0 s[i] k
            · go_wp2_with fail
              exact ⟨⟨k + 1, by omega, by go_num, by rw [HNX2.out, ho, Bool.false_or, marks_at k hk2, beq_u8]⟩, by simp [RowKit.intOf]; omega⟩
            · go_wp2_with fail
              exact ⟨⟨k + 1, by omega, by go_num, by rw [HNX2.out, ho]; rfl⟩, by simp [RowKit.intOf]; omega⟩
          · have hk16 : k = 16 := by omega
            subst hk16
            rw [H16.out]
            cases hn : inName s[i]
            · have hlen := HST.out hn
              have hv := HV.out
              rw [hlen] at hv
              have HV2 := Lib.hid hv
              clear hlen hv
              by_cases hi0 : i = 0
              · have ei : ((i : Int) == 0) = true := by rw [beq_iff_eq]; omega
                go_wp2_with fail
                go_ret
                exact ⟨retI (by rw [HV2.out, if_pos hi0]), rfl⟩
              · have ei : ((i : Int) == 0) = false := by rw [beq_eq_false_iff_ne]; omega
                go_wp2_with fail
                go_ret
                exact ⟨retI (by rw [HV2.out, if_neg hi0]), rfl⟩
            · have hI2 : Hid (((bs s).take (i + 1)).all inName = true) := by
                show _ = _
                rw [HNX.out, hI.out, hn]; rfl
              go_wp2_with fail
              exact ⟨⟨i + 1, by omega, by go_num, hI2⟩, by simp [RowKit.intOf]; omega⟩
      · rw [hl, Bool.true_or] at H16
        rw [hl] at HLt
        have HLt2 := Lib.hid HLt
        clear HLt HDg hl HIN
        go_wp2_with fail
        refine HLt2.out.mono ?_
        rintro e w' ⟨rfl, rfl⟩
        go_wp2_with fail
        go_loop [5, 6] (fun vo vk => ∃ k : Nat, k ≤ 16 ∧ vk = .int .i64 k ∧ vo = .bool (okAt true s[i] k)) (fun _ vk => 16 - (RowKit.intOf vk).toNat)
        case atStart => exact ⟨0, by omega, rfl, by rw [okAt_0]⟩
        case round =>
          obtain ⟨k, hk, rfl, rfl⟩ := hrel
          by_cases hk2 : k < 16
          · have hnx2 := okAt_next true s[i] k hk2
            have HNX2 := Lib.hid hnx2
            clear hnx2
            cases ho : okAt true s[i] k
            · exact absurd ho (by unfold okAt; simp)
            · go_wp2_with fail
              exact ⟨⟨k + 1, by omega, by go_num, by rw [HNX2.out, ho]; rfl⟩, by simp [RowKit.intOf]; omega⟩
          · have hk16 : k = 16 := by omega
            subst hk16
            rw [H16.out]
            cases hn : inName s[i]
            · have hlen := HST.out hn
              have hv := HV.out
              rw [hlen] at hv
              have HV2 := Lib.hid hv
              clear hlen hv
              by_cases hi0 : i = 0
              · have ei : ((i : Int) == 0) = true := by rw [beq_iff_eq]; omega
                go_wp2_with fail
                go_ret
                exact ⟨retI (by rw [HV2.out, if_pos hi0]), rfl⟩
              · have ei : ((i : Int) == 0) = false := by rw [beq_eq_false_iff_ne]; omega
                go_wp2_with fail
                go_ret
                exact ⟨retI (by rw [HV2.out, if_neg hi0]), rfl⟩
            · have hI2 : Hid (((bs s).take (i + 1)).all inName = true) := by
                show _ = _
                rw [HNX.out, hI.out, hn]; rfl
              go_wp2_with fail
              exact ⟨⟨i + 1, by omega, by go_num, hI2⟩, by simp [RowKit.intOf]; omega⟩
    · have hlen : nmLen (bs s) = s.size := by
        unfold nmLen
        have := hI.out
        rw [List.take_of_length_le (by rw [length_bs]; omega)] at this
        rw [takeW_end inName (bs s) this, length_bs]
      have hv := HV.out
      rw [hlen, if_neg (by omega)] at hv
      have HV2 := Lib.hid hv
      have ei : ((i : Int) == 0) = false := by rw [beq_eq_false_iff_ne]; omega
      have hii : (i : Int) = (s.size : Int) := by omega
      have HII := Lib.hid hii
      clear hlen hv hii
      go_wp2_with fail
      go_ret
      exact ⟨retI (by rw [HV2.out, HII.out]), rfl⟩

set_option maxHeartbeats 4000000 in
theorem rname_empty (s : ByteArray) (w : World) (hz : s.size = 0) :
    Calls Tryd.prog 117 #[.string s] w (RI (nmI (bs s)) w) := by
  have hb : bs s = [] := List.eq_nil_of_length_eq_zero (by rw [length_bs]; exact hz)
  have HV := Lib.hid (show nmI (bs s) = -1 by rw [hb]; decide)
  have he := empty_of s hz
  have hzi : (s.size : Int) = 0 := by omega
  have HZ := Lib.hid hz
  clear hb hz hzi
  go_enter Tryd.func117, Tryd.ntmps117
  go_wp2_with fail
  go_loop [3, 4, 5, 6] (fun vi _ _ _ => vi = .int .i64 0) (fun _ _ _ _ => 0)
  case atStart => rfl
  case round =>
    obtain rfl := hrel
    have hlt : ¬ (0 : Int) < (s.size : Int) := by have := HZ.out; omega
    go_wp2_with fail
    go_ret
    exact ⟨retI (by rw [HV.out]), rfl⟩
end Tk
end Go.Proofs.YtliinjibnikfgaaDoor
