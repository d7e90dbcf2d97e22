/- Bx0 Trm TokA Num Sam TokE CtA, put together. -/
import Derived.Test.YtnbipbeeengiaaaGreatDoorQA
import Derived.Lib.OwnBridge
import Derived.Shelf.Strings.SlTrimAscii
import Derived.Test.YtnbipbeeengiaaaGreatDoorQC
import Derived.Deep.RegionHeld3
import Derived.Deep.RegionWith
namespace Go.Proofs.YtnbipbeeengiaaaGreatDoor
open Go.RowKit
namespace Tk

/-- block g is a variable with these cells -/
def Bx (w : World) (g : Nat) (T : TypeId) (cs : Array Value) : Prop := w.heap[g]? = some (.cells cs T (0, 0))
theorem Bx.new (w : World) (T : TypeId) (cs : Array Value) : Bx (w.alloc (.cells cs T)) w.heap.size T cs := heap_alloc_last w _
theorem Bx.lt {w : World} {g : Nat} {T : TypeId} {cs : Array Value} (h : Bx w g T cs) : g < w.heap.size := (Array.getElem?_eq_some_iff.1 h).1
theorem Bx.later {w w' : World} {g : Nat} {T : TypeId} {cs : Array Value} (h : Bx w g T cs) (hb : Below w.heap.size w w') : Bx w' g T cs := (hb.block g h.lt).trans h
theorem Bx.cell {w : World} {g : Nat} {T : TypeId} {cs : Array Value} (h : Bx w g T cs) (i : Nat) (v : Value) (hv : cs[i]? = some v) : w.cell? ⟨g, i, none⟩ = some v := by rw [Lib.cell_of_heap h]; exact hv
theorem Bx.frozen {w : World} {g : Nat} {T : TypeId} {cs : Array Value} (h : Bx w g T cs) (i : Nat) : w.frozen? ⟨g, i, none⟩ = false := Lib.frozen_of_heap h i
theorem Bx.set {w : World} {g : Nat} {T : TypeId} {cs : Array Value} (h : Bx w g T cs) (i : Nat) (v : Value) : Bx (w.setCell ⟨g, i, none⟩ v) g T (cs.setIfInBounds i v) := heap_setCell_same w g i cs T v h
theorem Bx.grown {w w' : World} {g : Nat} {T : TypeId} {cs : Array Value} {r : Option Nat} (h : Bx w g T cs) (hg : w.grownBy w' r) (hr : some g ≠ r) : Bx w' g T cs := (hg.block g h.lt hr).trans h
theorem grown_setC (w : World) (g i : Nat) (v : Value) : w.grownBy (w.setCell ⟨g, i, none⟩ v) (some g) :=
  ⟨rfl, rfl, rfl, by rw [World.size_setCell]; exact Nat.le_refl _, fun k _ hne => heap_setCell_other w ⟨g, i, none⟩ k v (fun e => hne (by rw [e]))⟩
theorem grownC_trans {a b c : World} {r : Option Nat} (h : a.grownBy b r) (k : b.grownBy c r) : a.grownBy c r :=
  ⟨k.os.trans h.os, k.tape.trans h.tape, k.output.trans h.output, Nat.le_trans h.size k.size, fun i hi hne => (k.block i (Nat.lt_of_lt_of_le hi h.size) hne).trans (h.block i hi hne)⟩
theorem grownC_refl (a : World) (r : Option Nat) : a.grownBy a r := ⟨rfl, rfl, rfl, Nat.le_refl _, fun _ _ _ => rfl⟩
theorem grownC_below {w w' : World} (h : Below w.heap.size w w') (r : Option Nat) : w.grownBy w' r := ⟨h.os, h.tape, h.output, h.size, fun k hk _ => h.block k hk⟩

end Tk
end Go.Proofs.YtnbipbeeengiaaaGreatDoor
namespace Go.Proofs.YtnbipbeeengiaaaGreatDoor
open Go.RowKit
namespace Tk

theorem asciiZero : (Tryz.prog.info? 221).map (fun i => (i.zero, i.size)) = some (some (.agg (Array.replicate 256 (.bool false))), 256) := by kernel_rfl

set_option maxHeartbeats 400000 in
theorem trim_any (s : ByteArray) (w : World) (h : s.size ≤ 1099511627776) :
    Calls Tryz.prog 156 #[.string s] w (StrPost (trimL (bs s)) w) := by
  have h1 := Any.strings_Trim_laid Tryz.lays160 asciiZero s ⟨#[32, 9]⟩ w (by omega) (by decide) (ascii_of_all (by decide))
  have H := Lib.hid (show Calls Tryz.prog 180 #[.string s, .string ⟨#[32, 9]⟩] w fun e w' => e = .returned (.string (mkS (trimL (bs s)))) ∧ Below w.heap.size w w' from h1)
  have hl := trim_sublist (bs s)
  rw [length_bs] at hl
  clear h1
  go_enter Tryz.func156, Tryz.ntmps156
  go_wp2_with fail
  refine H.out.mono ?_
  rintro e w' ⟨rfl, hb⟩
  have HB := Lib.hid hb
  clear hb
  go_wp2_with fail
  refine (clone_any (mkS (trimL (bs s))) _ (by rw [size_mkS]; omega)).mono ?_
  rintro e w2 ⟨rfl, hb⟩
  have HB2 := Lib.hid hb
  clear hb
  go_wp2_with fail
  go_ret
  exact ⟨rfl, HB.out.trans (HB2.out.mono HB.out.size)⟩
end Tk
end Go.Proofs.YtnbipbeeengiaaaGreatDoor
namespace Go.Proofs.YtnbipbeeengiaaaGreatDoor
open Go.RowKit
namespace Tk

set_option maxHeartbeats 400000 in
theorem closing_any (s : ByteArray) (i : Nat) (w : World) (h : s.size ≤ 1099511627776) (hi : i < s.size) :
    Calls Tryz.prog 140 #[.string s, .int .i64 i] w fun r w' => r = .returned (.int .i64 (closing (bs s) i)) ∧ w = w' := by
  have hlen := length_bs s
  have HL := Lib.hid hlen
  clear hlen
  go_enter Tryz.func140, Tryz.ntmps140
  go_wp2_with fail
  go_step3
  go_wp2_with fail
  go_step3
  go_wp2_with fail
  go_loop [5] (fun v => ∃ k : Nat, k ≤ s.size + 1 ∧ v = .int .i64 k ∧ Hid (closing (bs s) i = k + closeLen ((bs s).drop k))) (fun v => (s.size + 2 - (RowKit.intOf v).toNat))
  case atStart => exact ⟨i + 1, by omega, by go_num, rfl⟩
  case round =>
    obtain ⟨k, hk, rfl, hR⟩ := hrel
    by_cases hlt : k < s.size
    · have hdr := drop_cons (bs s) k (by rw [HL.out]; exact hlt)
      rw [getD_bs s k hlt] at hdr
      have HD := Lib.hid hdr
      clear hdr
      go_wp2_with fail
      · have h92 : ((s[k].toNat : Int) == 92) = true := by assumption
        have e := u8_is s[k] 92 (by omega) h92
        refine ⟨⟨k + 2, by omega, by go_num, ?_⟩, by simp [RowKit.intOf]; omega⟩
        show _ = _
        rw [hR.out, closeLen_bs _ (by rw [HD.out, e]; rfl), List.drop_drop]
        omega
      · have h34 : ((s[k].toNat : Int) == 34) = true := by assumption
        have e := u8_is s[k] 34 (by omega) h34
        have fin : closing (bs s) i = k := by
          rw [hR.out, HD.out, e]
          exact (congrArg (k + ·) (closeLen_q _))
        go_ret
        exact ⟨by rw [fin]; rfl, rfl⟩
      · have h92 : ((s[k].toNat : Int) == 92) = false := by assumption
        have h34 : ((s[k].toNat : Int) == 34) = false := by assumption
        refine ⟨⟨k + 1, by omega, by go_num, ?_⟩, by simp [RowKit.intOf]; omega⟩
        show _ = _
        rw [hR.out, HD.out, closeLen_o _ _ (u8_not _ 92 h92 (by omega)) (u8_not _ 34 h34 (by omega))]
        omega
    · have hdr : (bs s).drop k = [] := List.drop_eq_nil_of_le (by rw [HL.out]; omega)
      have fin : closing (bs s) i = k := by rw [hR.out, hdr]; rfl
      have HF := Lib.hid fin
      clear fin hdr
      go_wp2_with fail
      go_ret
      exact ⟨by rw [HF.out]; rfl, rfl⟩
end Tk
end Go.Proofs.YtnbipbeeengiaaaGreatDoor
namespace Go.Proofs.YtnbipbeeengiaaaGreatDoor
open Go.RowKit
namespace Tk

set_option maxRecDepth 100000 in
set_option maxHeartbeats 1000000 in
theorem number_any (s : ByteArray) (w : World) (hs : s.size ≤ 1099511627776) :
    Calls Tryz.prog 139 #[.string s] w fun r w' => r = .returned (.tuple #[.int .i64 (numL (bs s)).1, .int .i64 (numL (bs s)).2]) ∧ w = w' := by
  by_cases h0 : s.size = 0
  · have hb : bs s = [] := List.eq_nil_of_length_eq_zero (by rw [length_bs]; exact h0)
    have he : s.toList.isEmpty = true := by rw [toList_bs, hb]; rfl
    have HB := Lib.hid hb
    clear hb h0
    go_enter Tryz.func139, Tryz.ntmps139
    go_wp2_with fail
    go_ret2
    exact ⟨by rw [HB.out]; rfl, rfl⟩
  · have hb : bs s ≠ [] := fun e => h0 (by rw [← length_bs, e]; rfl)
    have he : s.toList.isEmpty = false := by rw [toList_bs]; simpa using hb
    have hnum : numL (bs s) = numGo 0 ((bs s).drop 0) := by unfold numL; rw [if_neg hb]; rfl
    have HN := Lib.hid hnum
    have HL := Lib.hid (length_bs s)
    clear hnum hb h0
    go_enter Tryz.func139, Tryz.ntmps139
    go_wp2_with fail
    go_loop [4, 10, 5] (fun vn vi _ => ∃ (n i : Nat), n ≤ 90071992547409919 ∧ i ≤ s.size ∧ vn = .int .i64 n ∧ vi = .int .i64 i ∧ Hid (numL (bs s) = numGo n ((bs s).drop i))) (fun _ vi _ => s.size - (RowKit.intOf vi).toNat)
    case atStart => exact ⟨0, 0, by omega, by omega, rfl, rfl, HN.out⟩
    case round =>
      obtain ⟨n, i, hn, hi, rfl, rfl, hd⟩ := hrel
      by_cases hlt : i < s.size
      · have hdr := drop_cons (bs s) i (by rw [HL.out]; exact hlt)
        rw [getD_bs s i hlt] at hdr
        have HD := Lib.hid hdr
        have hc0 : 0 ≤ (s[i].toNat : Int) := by omega
        have hc1 : (s[i].toNat : Int) < 256 := by have := s[i].toNat_lt; omega
        clear hdr
        by_cases hlo : (s[i].toNat : Int) < 48
        · have fin : numL (bs s) = (0, 4) := by
            rw [hd.out, HD.out, numGo, if_neg]
            unfold isDig; simp; omega
          have HF := Lib.hid fin
          clear fin
          go_wp2_with fail
          go_ret2
          exact ⟨by rw [HF.out]; rfl, rfl⟩
        · by_cases hhi : (57 : Int) < (s[i].toNat : Int)
          · have fin : numL (bs s) = (0, 4) := by
              rw [hd.out, HD.out, numGo, if_neg]
              unfold isDig; simp; omega
            have HF := Lib.hid fin
            clear fin
            go_wp2_with fail
            go_ret2
            exact ⟨by rw [HF.out]; rfl, rfl⟩
          · have hdig : isDig s[i] = true := by unfold isDig; simp; omega
            have hgo : numL (bs s) = numGo (if n ≤ maxN then n * 10 + (s[i].toNat - 48) else n) ((bs s).drop (i + 1)) := by
              rw [hd.out, HD.out, numGo, if_pos hdig]
            by_cases hmx : n ≤ 9007199254740991
            · rw [if_pos (show n ≤ maxN from hmx)] at hgo
              have HG := Lib.hid hgo
              clear hgo hdig
              go_wp2_with fail
              refine ⟨⟨n * 10 + (s[i].toNat - 48), i + 1, by omega, by omega, ?_, by go_num, HG⟩, by simp [RowKit.intOf]; omega⟩
              congr 1
              omega
            · rw [if_neg (show ¬ n ≤ maxN from hmx)] at hgo
              have HG := Lib.hid hgo
              clear hgo hdig
              go_wp2_with fail
              exact ⟨⟨n, i + 1, by omega, by omega, rfl, by go_num, HG⟩, by simp [RowKit.intOf]; omega⟩
      · have hnil : (bs s).drop i = [] := List.drop_eq_nil_of_le (by rw [HL.out]; omega)
        have fin := hd.out
        rw [hnil, numGo] at fin
        have HF := Lib.hid fin
        clear fin hnil
        go_wp2_with fail
        · have hmx : (9007199254740991 : Int) < n := by assumption
          go_ret2
          exact ⟨by rw [HF.out, if_pos (show maxN < n by unfold maxN; omega)]; rfl, rfl⟩
        · have hmx : (n : Int) ≤ 9007199254740991 := by assumption
          go_ret2
          exact ⟨by rw [HF.out, if_neg (show ¬ maxN < n by unfold maxN; omega)]; rfl, rfl⟩
end Tk
end Go.Proofs.YtnbipbeeengiaaaGreatDoor
namespace Go.Proofs.YtnbipbeeengiaaaGreatDoor
open Go.RowKit
namespace Tk

set_option maxHeartbeats 400000 in
theorem lower_any (c : UInt8) (w : World) :
    Calls Tryz.prog 145 #[.int .u8 (c.toNat : Int)] w fun r w' => r = .returned (.int .u8 ((lowB c).toNat : Int)) ∧ w = w' := by
  have hlt := c.toNat_lt
  by_cases h0 : 65 ≤ c.toNat
  · by_cases h1 : c.toNat ≤ 90
    · have HU := Lib.hid (lowB_up c h0 h1)
      generalize c.toNat = n at *
      go_enter Tryz.func145, Tryz.ntmps145
      go_wp2_with fail
      go_ret
      exact ⟨by rw [HU.out]; rfl, rfl⟩
    · have HU := Lib.hid (lowB_same c (by omega))
      go_enter Tryz.func145, Tryz.ntmps145
      go_wp2_with fail
      go_ret
      exact ⟨by rw [HU.out]; rfl, rfl⟩
  · have HU := Lib.hid (lowB_same c (by omega))
    go_enter Tryz.func145, Tryz.ntmps145
    go_wp2_with fail
    go_ret
    exact ⟨by rw [HU.out]; rfl, rfl⟩

set_option maxRecDepth 100000 in
set_option maxHeartbeats 1000000 in
theorem tsame_any (s t : ByteArray) (w : World) (hs : s.size ≤ 1099511627776) (_ht : t.size ≤ 1099511627776) :
    Calls Tryz.prog 159 #[.string s, .string t] w fun r w' => r = .returned (.bool (decide (lowL (bs s) = lowL (bs t)))) ∧ ∃ n, w' = w.drewN n := by
  have HL := Lib.hid (length_bs s)
  have HM := Lib.hid (length_bs t)
  by_cases hne : s.size = t.size
  · have hb : ((s.size : Int) != (t.size : Int)) = false := by rw [hne]; simp
    have HN := Lib.hid hne
    clear hne
    go_enter Tryz.func159, Tryz.ntmps159
    go_wp2_with fail
    go_loopw [13, 5] (fun v _ wr => ∃ (j : Nat), j ≤ s.size ∧ v = .int .i64 j ∧ Hid (∃ n, wr = w.drewN n) ∧ Hid (decide (lowL (bs s) = lowL (bs t)) = decide (lowL ((bs s).drop j) = lowL ((bs t).drop j)))) (fun v _ _ => s.size - (RowKit.intOf v).toNat)
    case atStart => exact ⟨0, Nat.zero_le _, rfl, ⟨0, rfl⟩, rfl⟩
    case round =>
      obtain ⟨j, hj, rfl, HW, hd⟩ := hrel
      rename World => W
      by_cases hlt : j < s.size
      · have hlt2 : j < t.size := by have := HN.out; omega
        have hdr := drop_cons (bs s) j (by rw [HL.out]; exact hlt)
        rw [getD_bs s j hlt] at hdr
        have hdr2 := drop_cons (bs t) j (by rw [HM.out]; exact hlt2)
        rw [getD_bs t j hlt2] at hdr2
        have HD := Lib.hid hdr
        have HD2 := Lib.hid hdr2
        clear hdr hdr2
        have hI : (j : Int) < (s.size : Int) := by omega
        have hI2 : (j : Int) < (t.size : Int) := by omega
        go_wp2_with fail
        go_quiet ((go_at_call 145; exact Calls.quiet_of_same ((lower_any _ _).mono fun _ _ h => ⟨h.1, h.2.symm⟩)))
        obtain ⟨n, hW⟩ := HW.out
        have HW2 : Hid (∃ m, W.drewN nq = w.drewN m) := ⟨n + nq, by rw [hW, World.drewN_drewN]⟩
        clear hW
        go_wp2_with fail
        · have hx : (((lowB s[j]).toNat : Int) != ((lowB t[j]).toNat : Int)) = true := by assumption
          have hne : lowB s[j] ≠ lowB t[j] := fun e => by rw [e] at hx; simp at hx
          have fin : decide (lowL (bs s) = lowL (bs t)) = false := by
            rw [hd.out, HD.out, HD2.out]; simp [lowL, hne]
          go_ret
          exact ⟨by rw [fin]; rfl, HW2.out⟩
        · have hx : (((lowB s[j]).toNat : Int) != ((lowB t[j]).toNat : Int)) = false := by assumption
          have he : lowB s[j] = lowB t[j] := UInt8.toNat_inj.1 (by rw [bne_eq_false_iff_eq] at hx; omega)
          refine ⟨⟨j + 1, by omega, by go_num, HW2, ?_⟩, by simp [RowKit.intOf]; omega⟩
          show _ = _
          rw [hd.out, HD.out, HD2.out]; simp [lowL, he]
      · have fin : decide (lowL (bs s) = lowL (bs t)) = true := by
          have := HN.out
          rw [hd.out, List.drop_eq_nil_of_le (by rw [HL.out]; omega), List.drop_eq_nil_of_le (by rw [HM.out]; omega)]; simp
        have HF := Lib.hid fin
        clear fin
        go_wp2_with fail
        go_ret
        exact ⟨by rw [HF.out]; rfl, HW.out⟩
  · have hb : ((s.size : Int) != (t.size : Int)) = true := by simp; omega
    have hf : decide (lowL (bs s) = lowL (bs t)) = false := by
      simp only [decide_eq_false_iff_not]
      intro e
      have := congrArg List.length e
      rw [length_lowL, length_lowL, length_bs, length_bs] at this
      exact hne this
    have HF := Lib.hid hf
    clear hf hne
    go_enter Tryz.func159, Tryz.ntmps159
    go_wp2_with fail
    go_ret
    exact ⟨by rw [HF.out]; rfl, 0, rfl⟩
end Tk
end Go.Proofs.YtnbipbeeengiaaaGreatDoor
namespace Go.Proofs.YtnbipbeeengiaaaGreatDoor
open Go.RowKit
namespace Tk

/-- the byte at place t when the first i are in small letters -/
def mixAt (l : Bs) (i t : Nat) : UInt8 := if t < i then lowB (l.getD t 0) else l.getD t 0

theorem bytesRow_at (s : ByteArray) (cap t : Nat) (h : t < s.size) : (bytesRow s cap)[t]? = some (.int .u8 (((bs s).getD t 0).toNat : Int)) := by
  unfold bytesRow
  rw [Array.getElem?_append_left (by simpa using h), Array.getElem?_map]
  have e : (bs s).getD t 0 = s.data[t]'h := by rw [getD_bs s t h]; rfl
  rw [e, Array.getElem?_eq_getElem h]; rfl

set_option maxRecDepth 100000 in
set_option maxHeartbeats 1000000 in
theorem tlower_any (s : ByteArray) (w : World) (hs : s.size ≤ 1099511627776) :
    Calls Tryz.prog 117 #[.string s] w (StrPost (lowL (bs s)) w) := by
  have HL := Lib.hid (length_bs s)
  have hconv := run_bytes_of_string (P := Tryz.prog) w 9 82 5 s Tryz.underlying9 Tryz.underlying82 Tryz.underlying5
  have hC : ∀ t, t < s.size → (bytesRow s (grownCap w s.size 0 5))[t]? = some (.int .u8 (((bs s).getD t 0).toNat : Int)) := fun t h => bytesRow_at s _ t h
  generalize bytesRow s (grownCap w s.size 0 5) = C at *
  generalize grownCap w s.size 0 5 = cap at *
  have HC := Lib.hid hC
  clear hC
  go_enter Tryz.func117, Tryz.ntmps117
  go_wp2_with fail
  go_loopw [10, 4, 5] (fun vi _ _ wr => ∃ i : Nat, i ≤ s.size ∧ vi = .int .i64 i ∧ Hid (∀ t, t < s.size → wr.cell? ⟨w.heap.size, t, none⟩ = some (.int .u8 ((mixAt (bs s) i t).toNat : Int)) ∧ wr.frozen? ⟨w.heap.size, t, none⟩ = false) ∧ Hid (Below w.heap.size w wr)) (fun vi _ _ _ => s.size - (RowKit.intOf vi).toNat)
  case atStart =>
    refine ⟨0, Nat.zero_le _, rfl, ?_, ?_⟩
    · intro t ht
      have h1 : ((w.alloc (.cells C 5 (C.size, C.size + 1))).drew).cell? ⟨w.heap.size, t, none⟩ = C[t]? := World.cell?_alloc_mark w C 5 _ t
      have hlt : t < C.size := by
        refine Nat.lt_of_not_le fun hle => ?_
        have := HC.out t ht
        rw [Array.getElem?_eq_none hle] at this
        cases this
      have h2 : ((w.alloc (.cells C 5 (C.size, C.size + 1))).drew).frozen? ⟨w.heap.size, t, none⟩ = _ := World.frozen?_alloc_mark w C 5 _ _ t
      refine ⟨by rw [h1, HC.out t ht]; rfl, ?_⟩
      rw [h2]
      simp; omega
    · exact ((Below.refl _ _).alloc (Nat.le_refl _) _).drew
  case round =>
    obtain ⟨i, hi, rfl, HM, HB⟩ := hrel
    rename World => W
    by_cases hlt : i < s.size
    · obtain ⟨hc, hf⟩ := HM.out i hlt
      have e : mixAt (bs s) i i = (bs s).getD i 0 := by unfold mixAt; rw [if_neg (by omega)]
      rw [e] at hc
      have HM2 : Hid (∀ t, t < s.size → (W.setCell ⟨w.heap.size, i, none⟩ (.int .u8 ((lowB ((bs s).getD i 0)).toNat : Int))).cell? ⟨w.heap.size, t, none⟩ = some (.int .u8 ((mixAt (bs s) (i + 1) t).toNat : Int)) ∧ (W.setCell ⟨w.heap.size, i, none⟩ (.int .u8 ((lowB ((bs s).getD i 0)).toNat : Int))).frozen? ⟨w.heap.size, t, none⟩ = false) := by
        intro t ht
        obtain ⟨h1, h2⟩ := HM.out t ht
        refine ⟨?_, by rw [World.frozen?_setCell]; exact h2⟩
        by_cases hti : t = i
        · subst hti
          rw [World.cell?_setCell_same _ _ _ hc]
          unfold mixAt; rw [if_pos (by omega)]
        · rw [World.cell?_setCell_other (w := W) (a := ⟨w.heap.size, i, none⟩) (b := ⟨w.heap.size, t, none⟩) (h := by intro e; injection e with _ e2; exact hti e2.symm), h1]
          have : mixAt (bs s) i t = mixAt (bs s) (i + 1) t := by
            unfold mixAt
            by_cases h3 : t < i
            · rw [if_pos h3, if_pos (by omega)]
            · rw [if_neg h3, if_neg (by omega)]
          rw [this]
      have HB2 := Lib.hid (HB.out.setCell (p := ⟨w.heap.size, i, none⟩) (Nat.le_refl _) (.int .u8 ((lowB ((bs s).getD i 0)).toNat : Int)))
      generalize (bs s).getD i 0 = c at *
      go_wp2_with fail
      refine (lower_any c W).mono ?_
      rintro e w' ⟨rfl, rfl⟩
      go_wp2_with fail
      go_roundw
      case rel => exact ⟨i + 1, by omega, by go_num, HM2, HB2⟩
      case measure => simp [RowKit.intOf]; omega
    · have hlen : (lowL (bs s)).length = s.size := by rw [length_lowL, HL.out]
      have hback := run_convert_bytes_back (P := Tryz.prog) W 82 9 5 ⟨w.heap.size, 0, none⟩ cap (lowL (bs s)) Tryz.underlying82 Tryz.underlying5 Tryz.underlying9 (fun j hj => by
        have hj' : j < s.size := by rw [hlen] at hj; exact hj
        have h1 := (HM.out j hj').1
        have e : mixAt (bs s) i j = (lowL (bs s))[j] := by
          have hjl : j < (bs s).length := by rw [HL.out]; exact hj'
          have e2 : (lowL (bs s))[j] = lowB ((bs s)[j]'hjl) := by simp [lowL]
          unfold mixAt
          rw [if_pos (by omega), e2]
          simp [List.getD, hjl]
        rw [e] at h1
        by_cases hj0 : j = 0
        · subst hj0; simpa [Addr.add] using h1
        · simpa [Addr.add, hj0] using h1)
      rw [hlen] at hback
      go_wp2_with fail
      go_ret
      exact ⟨rfl, HB.out⟩
end Tk
end Go.Proofs.YtnbipbeeengiaaaGreatDoor
namespace Go.Proofs.YtnbipbeeengiaaaGreatDoor
open Go.RowKit
namespace Tk

/-- an argument of a directive -/
def argV (t : Bs) (h : Bool) : Value := .agg #[.string (mkS t), .bool h]

set_option maxHeartbeats 1000000 in
set_option maxRecDepth 100000 in
theorem secs_any (t : Bs) (h : Bool) (w : World) (ht : t.length ≤ 1099511627776) :
    Calls Tryz.prog 96 #[argV t h] w fun e w' => e = .returned (.int .i64 (secN t)) ∧ Below w.heap.size w w' := by
  have HN : Hid (∀ W : World, Calls Tryz.prog 139 #[.string (mkS t)] W fun r w' => r = .returned (.tuple #[.int .i64 (numL t).1, .int .i64 (numL t).2]) ∧ W = w') := fun W => by
    have := number_any (mkS t) W (by rw [size_mkS]; exact ht)
    rw [bs_mkS] at this
    exact this
  have hB := Bx.new w 113 #[.string (mkS t), .bool h]
  have c0 := hB.cell 0 _ rfl
  have HB0 := Lib.hid (show Below w.heap.size w (w.alloc (.cells #[.string (mkS t), .bool h] 113)) from (Below.refl _ _).alloc (Nat.le_refl _) _)
  have hsec : secN t = if (numL t).2 = 0 then min ((numL t).1 : Int) mxD else if (numL t).2 = 3 then mxD else -1 := rfl
  have HS := Lib.hid hsec
  clear hsec hB
  unfold argV
  generalize numL t = r at *
  obtain ⟨n, e⟩ := r
  simp only at HN HS
  by_cases h0 : e = 0
  · subst h0
    rw [if_pos rfl] at HS
    rw [HS.out]
    go_enter Tryz.func96, Tryz.ntmps96
    go_wp2_with fail
    refine (HN.out _).mono ?_
    rintro e w' ⟨rfl, rfl⟩
    go_wp2_with fail
    go_ret
    exact ⟨rfl, HB0.out⟩
  · rw [if_neg h0] at HS
    have b0 : ((e : Int) == 0) = false := by rw [beq_eq_false_iff_ne]; omega
    by_cases h3 : e = 3
    · subst h3
      rw [if_pos rfl] at HS
      rw [HS.out]
      clear h0
      go_enter Tryz.func96, Tryz.ntmps96
      go_wp2_with fail
      refine (HN.out _).mono ?_
      rintro e w' ⟨rfl, rfl⟩
      go_wp2_with fail
      go_ret
      exact ⟨rfl, HB0.out⟩
    · rw [if_neg h3] at HS
      have b3 : ((e : Int) == 3) = false := by rw [beq_eq_false_iff_ne]; omega
      rw [HS.out]
      clear h0 h3
      go_enter Tryz.func96, Tryz.ntmps96
      go_wp2_with fail
      refine (HN.out _).mono ?_
      rintro e w' ⟨rfl, rfl⟩
      go_wp2_with fail
      go_ret
      exact ⟨rfl, HB0.out⟩

set_option maxHeartbeats 1000000 in
set_option maxRecDepth 100000 in
theorem stale_any (t : Bs) (h : Bool) (w : World) (ht : t.length ≤ 1099511627776) :
    Calls Tryz.prog 99 #[argV t h] w fun e w' => e = .returned (.int .i64 (staleN t h)) ∧ Below w.heap.size w w' := by
  have HN := Lib.hid (fun W : World => secs_any t h W ht)
  have hB := Bx.new w 113 #[.string (mkS t), .bool h]
  have c0 := hB.cell 0 _ rfl
  have c1 := hB.cell 1 _ rfl
  have HB0 := Lib.hid (show Below w.heap.size w (w.alloc (.cells #[.string (mkS t), .bool h] 113)) from (Below.refl _ _).alloc (Nat.le_refl _) _)
  have hsz : w.heap.size ≤ (w.alloc (.cells #[.string (mkS t), .bool h] 113)).heap.size := by simp
  clear hB
  unfold argV at *
  cases h
  · go_enter Tryz.func99, Tryz.ntmps99
    go_wp2_with fail
    go_ret
    exact ⟨rfl, HB0.out⟩
  · go_enter Tryz.func99, Tryz.ntmps99
    go_wp2_with fail
    refine (HN.out _).mono ?_
    rintro e w' ⟨rfl, hb⟩
    have HB1 := Lib.hid (HB0.out.trans (hb.mono hsz))
    clear hb
    go_wp2_with fail
    go_ret
    exact ⟨rfl, HB1.out⟩

set_option maxHeartbeats 1000000 in
set_option maxRecDepth 100000 in
theorem least_any (g i : Nat) (T : TypeId) (cs : Array Value) (a n : Int) (w : World) (hB : Bx w g T cs) (hi : cs[i]? = some (.int .i64 a)) :
    Calls Tryz.prog 95 #[.pointer (some ⟨g, i, none⟩), .int .i64 n] w fun e w' => e = .returned (.tuple #[]) ∧ Bx w' g T (cs.setIfInBounds i (.int .i64 (leastI a n))) ∧ w.grownBy w' (some g) := by
  have hc := hB.cell i _ hi
  have hf := hB.frozen i
  have same : cs.setIfInBounds i (.int .i64 a) = cs := by
    apply Array.ext_getElem?
    intro j
    rw [Array.getElem?_setIfInBounds]
    split
    · rename_i h; subst h
      have := (Array.getElem?_eq_some_iff.1 hi).1
      rw [if_pos this, hi]
    · rfl
  have HB := Lib.hid hB
  have HSm := Lib.hid same
  clear hB same hi
  by_cases h0 : n = -1
  · subst h0
    rw [least_none, HSm.out]
    have b0 : ((-1 : Int) != -1) = false := by decide
    go_enter Tryz.func95, Tryz.ntmps95
    go_wp2_with fail
    refine bodyPost_end (v := .tuple #[]) ?_ rfl ⟨rfl, HB.out, grownC_refl _ _⟩
    simp [results, Tryz.results95, go_sem]
  · have b0 : ((n : Int) != -1) = true := by simpa using h0
    have b0' : ((n : Int) == -1) = false := by simpa using h0
    by_cases h1 : a = -1
    · subst h1
      have b1 : ((-1 : Int) == -1) = true := by decide
      rw [least_none']
      clear h0
      go_enter Tryz.func95, Tryz.ntmps95
      go_wp2_with fail
      refine bodyPost_end (v := .tuple #[]) ?_ rfl ⟨rfl, HB.out.set _ _, grown_setC _ _ _ _⟩
      simp [results, Tryz.results95, go_sem]
    · have b1 : ((a : Int) == -1) = false := by simpa using h1
      by_cases h2 : n < a
      · have e : leastI a n = n := by unfold leastI; rw [if_neg h0, if_pos (.inr h2)]
        rw [e]
        have b2 : decide (n < a) = true := decide_eq_true h2
        clear h0 h1 e
        go_enter Tryz.func95, Tryz.ntmps95
        go_wp2_with fail
        refine bodyPost_end (v := .tuple #[]) ?_ rfl ⟨rfl, HB.out.set _ _, grown_setC _ _ _ _⟩
        simp [results, Tryz.results95, go_sem]
      · have e : leastI a n = a := by unfold leastI; rw [if_neg h0, if_neg (by omega)]
        rw [e, HSm.out]
        have b2 : decide (n < a) = false := decide_eq_false h2
        clear h0 h1 e
        go_enter Tryz.func95, Tryz.ntmps95
        go_wp2_with fail
        refine bodyPost_end (v := .tuple #[]) ?_ rfl ⟨rfl, HB.out, grownC_refl _ _⟩
        simp [results, Tryz.results95, go_sem]
end Tk
end Go.Proofs.YtnbipbeeengiaaaGreatDoor
