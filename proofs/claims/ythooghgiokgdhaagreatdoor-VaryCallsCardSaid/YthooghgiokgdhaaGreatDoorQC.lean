/- Sam FldS Str FldG TokA TokB TokC Same Join FldV, put together. -/
import Derived.Test.YthooghgiokgdhaaGreatDoorQA
import Derived.Test.YthooghgiokgdhaaGreatDoorQB
import Derived.Laws.AppendOwnNone
import Derived.BigFrame
import Derived.Deep.Onto
import Derived.Lib.Join
namespace Go.Proofs.YthooghgiokgdhaaGreatDoor
open Go.RowKit
namespace Tk

set_option maxHeartbeats 400000 in
theorem lower_any (c : UInt8) (w : World) :
    Calls Tryz.prog 183 #[.int .u8 (c.toNat : Int)] w fun r w' => r = .returned (.int .u8 ((lowB c).toNat : Int)) ∧ w = w' := by
  have hlt := c.toNat_lt
  by_cases h0 : 65 ≤ c.toNat
  · by_cases h1 : c.toNat ≤ 90
    · have HU := Lib.hid (lowB_up c h0 h1)
      generalize c.toNat = n at *
      go_enter Tryz.func183, Tryz.ntmps183
      go_wp2_with fail
      go_ret
      exact ⟨by rw [HU.out]; rfl, rfl⟩
    · have HU := Lib.hid (lowB_same c (by omega))
      go_enter Tryz.func183, Tryz.ntmps183
      go_wp2_with fail
      go_ret
      exact ⟨by rw [HU.out]; rfl, rfl⟩
  · have HU := Lib.hid (lowB_same c (by omega))
    go_enter Tryz.func183, Tryz.ntmps183
    go_wp2_with fail
    go_ret
    exact ⟨by rw [HU.out]; rfl, rfl⟩

set_option maxRecDepth 100000 in
set_option maxHeartbeats 1000000 in
theorem tsame_any (s t : ByteArray) (w : World) (hs : s.size ≤ 1099511627776) (_ht : t.size ≤ 1099511627776) :
    Calls Tryz.prog 180 #[.string s, .string t] w fun r w' => r = .returned (.bool (decide (lowL (bs s) = lowL (bs t)))) ∧ ∃ n, w' = w.drewN n := by
  have HL := Lib.hid (length_bs s)
  have HM := Lib.hid (length_bs t)
  by_cases hne : s.size = t.size
  · have hb : ((s.size : Int) != (t.size : Int)) = false := by rw [hne]; simp
    have HN := Lib.hid hne
    clear hne
    go_enter Tryz.func180, Tryz.ntmps180
    go_wp2_with fail
    go_loopw [13, 5] (fun v _ wr => ∃ (j : Nat), j ≤ s.size ∧ v = .int .i64 j ∧ Hid (∃ n, wr = w.drewN n) ∧ Hid (decide (lowL (bs s) = lowL (bs t)) = decide (lowL ((bs s).drop j) = lowL ((bs t).drop j)))) (fun v _ _ => s.size - (RowKit.intOf v).toNat)
    case atStart => exact ⟨0, Nat.zero_le _, rfl, ⟨0, rfl⟩, rfl⟩
    case round =>
      obtain ⟨j, hj, rfl, HW, hd⟩ := hrel
      rename World => W
      by_cases hlt : j < s.size
      · have hlt2 : j < t.size := by have := HN.out; omega
        have hdr := drop_cons (bs s) j (by rw [HL.out]; exact hlt)
        rw [getD_bs s j hlt] at hdr
        have hdr2 := drop_cons (bs t) j (by rw [HM.out]; exact hlt2)
        rw [getD_bs t j hlt2] at hdr2
        have HD := Lib.hid hdr
        have HD2 := Lib.hid hdr2
        clear hdr hdr2
        have hI : (j : Int) < (s.size : Int) := by omega
        have hI2 : (j : Int) < (t.size : Int) := by omega
        go_wp2_with fail
        go_quiet ((go_at_call 183; exact Calls.quiet_of_same ((lower_any _ _).mono fun _ _ h => ⟨h.1, h.2.symm⟩)))
        obtain ⟨n, hW⟩ := HW.out
        have HW2 : Hid (∃ m, W.drewN nq = w.drewN m) := ⟨n + nq, by rw [hW, World.drewN_drewN]⟩
        clear hW
        go_wp2_with fail
        · have hx : (((lowB s[j]).toNat : Int) != ((lowB t[j]).toNat : Int)) = true := by assumption
          have hne : lowB s[j] ≠ lowB t[j] := fun e => by rw [e] at hx; simp at hx
          have fin : decide (lowL (bs s) = lowL (bs t)) = false := by
            rw [hd.out, HD.out, HD2.out]; simp [lowL, hne]
          go_ret
          exact ⟨by rw [fin]; rfl, HW2.out⟩
        · have hx : (((lowB s[j]).toNat : Int) != ((lowB t[j]).toNat : Int)) = false := by assumption
          have he : lowB s[j] = lowB t[j] := UInt8.toNat_inj.1 (by rw [bne_eq_false_iff_eq] at hx; omega)
          refine ⟨⟨j + 1, by omega, by go_num, HW2, ?_⟩, by simp [RowKit.intOf]; omega⟩
          show _ = _
          rw [hd.out, HD.out, HD2.out]; simp [lowL, he]
      · have fin : decide (lowL (bs s) = lowL (bs t)) = true := by
          have := HN.out
          rw [hd.out, List.drop_eq_nil_of_le (by rw [HL.out]; omega), List.drop_eq_nil_of_le (by rw [HM.out]; omega)]; simp
        have HF := Lib.hid fin
        clear fin
        go_wp2_with fail
        go_ret
        exact ⟨by rw [HF.out]; rfl, HW.out⟩
  · have hb : ((s.size : Int) != (t.size : Int)) = true := by simp; omega
    have hf : decide (lowL (bs s) = lowL (bs t)) = false := by
      simp only [decide_eq_false_iff_not]
      intro e
      have := congrArg List.length e
      rw [length_lowL, length_lowL, length_bs, length_bs] at this
      exact hne this
    have HF := Lib.hid hf
    clear hf hne
    go_enter Tryz.func180, Tryz.ntmps180
    go_wp2_with fail
    go_ret
    exact ⟨by rw [HF.out]; rfl, 0, rfl⟩
end Tk
end Go.Proofs.YthooghgiokgdhaaGreatDoor
namespace Go.Proofs.YthooghgiokgdhaaGreatDoor
open Go.RowKit
namespace Tk

def eqF (f g : Bs × Bs) : Bool := decide (lowL f.1 = lowL g.1) && decide (f.2 = g.2)
def sameFs : List (Bs × Bs) → List (Bs × Bs) → Bool
  | [], [] => true
  | f :: t, g :: u => eqF f g && sameFs t u
  | _, _ => false

theorem below_some_draws {w w1 : World} (h : Below w.heap.size w w1) (n : Nat) : Below w.heap.size w (w1.drewN n) := h.trans ⟨rfl, rfl, rfl, Nat.le_refl _, fun _ _ => rfl⟩
theorem beq_mkS' (a b : Bs) : ((mkS a).toList == (mkS b).toList) = decide (a = b) := by
  rw [toList_bs, toList_bs, bs_mkS, bs_mkS]
  by_cases h : a = b <;> simp [h]

theorem sameFs_drop (l m : List (Bs × Bs)) (i : Nat) (hi : i < l.length) (hm : i < m.length) : sameFs (l.drop i) (m.drop i) = (eqF (l.getD i ([], [])) (m.getD i ([], [])) && sameFs (l.drop (i + 1)) (m.drop (i + 1))) := by
  rw [List.drop_eq_getElem_cons hi, List.drop_eq_getElem_cons hm, sameFs]
  simp [List.getD, hi, hm]
theorem sameFs_len : ∀ (l m : List (Bs × Bs)), sameFs l m = true → l.length = m.length
  | [], [], _ => rfl
  | f :: t, g :: u, h => by
    simp only [sameFs, Bool.and_eq_true] at h
    have := sameFs_len t u h.2
    simp [this]
  | [], _ :: _, h => by simp [sameFs] at h
  | _ :: _, [], h => by simp [sameFs] at h

end Tk
end Go.Proofs.YthooghgiokgdhaaGreatDoor
namespace Go.Proofs.YthooghgiokgdhaaGreatDoor
open Go.RowKit
namespace Tk

def strs (P : List Bs) : List Value := P.map fun t => .string (mkS t)
theorem strs_append (P Q : List Bs) : strs (P ++ Q) = strs P ++ strs Q := by simp [strs]
theorem strInfo : (Tryz.prog.info? 9).map (fun i => (i.zero, i.size, i.bytes)) = some (some (.string .empty), 1, 16) := by kernel_rfl

def ListPost (base : Nat) (Q : List Bs) (w : World) (r : Ending) (w' : World) : Prop :=
  ∃ v, r = .returned v ∧ w'.ownsRow base 9 1 v Q.length (strs Q) ∧ Below base w w'

theorem below_of_grown {a b : World} {B : Nat} {v : Value} {n : Nat} {xs : List Value} {e : TypeId} (h : a.grownBy b v.ownBlock) (ho : a.ownsRow B e 1 v n xs) (hB : B ≤ a.heap.size) : Below B a b :=
  (Below.refl B a).grown h hB fun k hk => (ho.lt k hk).1
end Tk
end Go.Proofs.YthooghgiokgdhaaGreatDoor
namespace Go.Proofs.YthooghgiokgdhaaGreatDoor
open Go.RowKit
namespace Tk

def isN (name : Bs) (f : Bs × Bs) : Bool := decide (lowL f.1 = lowL name)
def allF (l : List (Bs × Bs)) (name : Bs) : List Bs := (l.filter (isN name)).map (·.2)
theorem allF_snoc (l : List (Bs × Bs)) (f : Bs × Bs) (name : Bs) : allF (l ++ [f]) name = allF l name ++ (if isN name f then [f.2] else []) := by
  unfold allF
  cases h : isN name f <;> simp [h]
theorem allF_len (l : List (Bs × Bs)) (name : Bs) : (allF l name).length ≤ l.length := by
  unfold allF; rw [List.length_map]; exact List.length_filter_le _ _

set_option maxHeartbeats 4000000 in
set_option maxRecDepth 100000 in
theorem fown_any (n x : Bs) (w : World) (hn : n.length ≤ 1099511627776) (hx : x.length ≤ 1099511627776) :
    Calls Tryz.prog 221 #[.string (mkS n), .string (mkS x)] w fun e w' => e = .returned (.agg #[.string (mkS n), .string (mkS x)]) ∧ Below w.heap.size w w' := by
  have H1 := Lib.hid (fun W : World => clone_any (mkS n) W (by rw [size_mkS]; exact hn))
  have H2 := Lib.hid (fun W : World => clone_any (mkS x) W (by rw [size_mkS]; exact hx))
  rw [bs_mkS] at H1 H2
  have HN := Lib.hid (Two.new w 31 (.string ⟨#[]⟩) (.string ⟨#[]⟩))
  have HB0 := Lib.hid (show Below w.heap.size w (w.alloc (.cells #[.string ⟨#[]⟩, .string ⟨#[]⟩] 31)) from (Below.refl _ _).alloc (Nat.le_refl _) _)
  have hsz : w.heap.size ≤ (w.alloc (.cells #[.string ⟨#[]⟩, .string ⟨#[]⟩] 31)).heap.size := by simp
  go_enter Tryz.func221, Tryz.ntmps221
  go_wp2_with fail
  generalize w.alloc (.cells #[.string ⟨#[]⟩, .string ⟨#[]⟩] 31) = W0 at *
  refine (H1.out _).mono ?_
  rintro e w1 ⟨rfl, hb⟩
  have HN1 := Lib.hid (HN.out.later hb)
  have HB1 := Lib.hid (HB0.out.trans (hb.mono hsz))
  have hsz1 := Nat.le_trans hsz hb.size
  clear hb
  go_wp2_with fail
  refine (H2.out _).mono ?_
  rintro e w2 ⟨rfl, hb⟩
  have HN2 := Lib.hid (HN1.out.later hb)
  have HB2 := Lib.hid (HB1.out.trans (hb.mono hsz1))
  have c0 := HN2.out.c0
  have c1 := HN2.out.c1
  have f0 := HN2.out.f0
  have f1 := HN2.out.f1
  clear hb
  have hput := HN2.out.put (.string (mkS n)) (.string (mkS x))
  have q0 := hput.1
  have q1 := hput.2
  clear hput
  go_wp2_with fail
  refine bodyPost_ret (v := .agg #[.string (mkS n), .string (mkS x)]) ?_ rfl ⟨rfl, ?_⟩
  · simp [results, Tryz.results221, go_sem, q0, q1]
  · exact (HB2.out.setCell (p := ⟨w.heap.size, 0, none⟩) (Nat.le_refl _) _).setCell (p := ⟨w.heap.size, 1, none⟩) (Nat.le_refl _) _

set_option maxHeartbeats 8000000 in
set_option maxRecDepth 100000 in
theorem fall_any (v : Value) (l : List (Bs × Bs)) (name : Bs) (w : World) (hs : IsFlds w v l) (hz : ∀ f ∈ l, f.1.length ≤ 1099511627776 ∧ f.2.length ≤ 1099511627776) (hn : name.length ≤ 1099511627776) (hl : l.length ≤ 1048576) :
    Calls Tryz.prog 110 #[v, .string (mkS name)] w (ListPost w.heap.size (allF l name) w) := by
  have HS := Lib.hid hs
  have HZ := Lib.hid hz
  obtain ⟨i0, hi0, hz0, hz1, hz2⟩ := info_parts strInfo
  have HNZ := Lib.hid (size_mkS name)
  obtain ⟨a, cap, rfl⟩ : ∃ a cap, v = .slice a l.length cap := by obtain ⟨a, c, h, -⟩ := hs; exact ⟨a, c, h⟩
  clear hs hz
  go_enter Tryz.func110, Tryz.ntmps110
  go_wp2_with fail
  go_loopw [5, 10] (fun v5 vi wr => ∃ i : Nat, i ≤ l.length ∧ vi = .int .i64 i ∧ Hid (wr.ownsRow w.heap.size 9 1 v5 (allF (l.take i) name).length (strs (allF (l.take i) name))) ∧ Hid (Below w.heap.size w wr)) (fun _ vi _ => l.length - (RowKit.intOf vi).toNat)
  case atStart => exact ⟨0, Nat.zero_le _, rfl, World.ownsRow_nil _ _ _ _, Below.refl _ _⟩
  case round =>
    obtain ⟨i, hi, rfl, HO, HB⟩ := hrel
    rename World => W
    by_cases hlt : i < l.length
    · obtain ⟨a', c', e', hcap, hc⟩ := isFlds_below HS.out HB.out
      injection e' with e1 _ e2
      subst e1 e2
      obtain ⟨b, o, rfl, hc0, hc1⟩ := hc i (l.getD i ([], [])) (by simp [List.getD, hlt])
      have hm := HZ.out (l.getD i ([], [])) (by simp [List.getD, hlt])
      have htk : l.take (i + 1) = l.take i ++ [l.getD i ([], [])] := by
        rw [List.take_succ_eq_append_getElem hlt]; simp [List.getD, hlt]
      have hnx := allF_snoc (l.take i) (l.getD i ([], [])) name
      rw [← htk] at hnx
      have HNX := Lib.hid hnx
      have hal := allF_len (l.take i) name
      have htl : (l.take i).length ≤ i := by simp; omega
      have hal2 : (allF (l.take i) name).length ≤ 1048576 := by omega
      clear hc htk hnx hal htl
      generalize l.getD i ([], []) = f at *
      obtain ⟨n, x⟩ := f
      have hnz := size_mkS n
      have hxz := size_mkS x
      simp only at hm hc0 hc1
      have HC := fun W : World => tsame_any (mkS n) (mkS name) W (by omega) (by rw [HNZ.out]; exact hn)
      rw [bs_mkS, bs_mkS] at HC
      have HCl := Lib.hid (fun W : World => clone_any (mkS x) W (by omega))
      rw [bs_mkS] at HCl
      have HF0 := Lib.hid (Two.new W 31 (.string (mkS n)) (.string (mkS x)))
      have hb0 : Below W.heap.size W (W.alloc (Obj.cells #[.string (mkS n), .string (mkS x)] 31)) := (Below.refl _ _).alloc (Nat.le_refl _) _
      have HO0 := Lib.hid (own_keep HO.out hb0)
      have HB0 := Lib.hid (HB.out.trans (hb0.mono HB.out.size))
      have hq0 := HF0.out.c0
      have hq1 := HF0.out.c1
      have g0 : (0 : Int) ≤ (i : Int) := by omega
      have g1 : (i : Int) < (l.length : Int) := by omega
      have hbsz := HB.out.size
      have hs0 : w.heap.size ≤ (W.alloc (Obj.cells #[.string (mkS n), .string (mkS x)] 31)).heap.size := by simp; omega
      clear hb0 hnz hxz hbsz
      have hkk : isN name (n, x) = decide (lowL n = lowL name) := rfl
      rw [← hkk] at HC
      clear hkk
      generalize allF (l.take i) name = P at *
      cases hk : isN name (n, x)
      · rw [hk] at HC HNX
        have hx2 : allF (l.take (i + 1)) name = P := by rw [HNX.out]; simp
        have HX := Lib.hid hx2
        have HC2 := Lib.hid HC
        clear HC hk hx2
        go_wp2_with fail
        generalize W.alloc (Obj.cells #[.string (mkS n), .string (mkS x)] 31) = W4 at *
        generalize W.heap.size = g at *
        refine (HC2.out _).mono ?_
        rintro e w5 ⟨rfl, k, rfl⟩
        go_wp2_with fail
        refine ⟨⟨i + 1, hlt, by go_num, ?_, below_some_draws HB0.out k⟩, by simp [RowKit.intOf]; omega⟩
        show World.ownsRow _ _ _ _ _ _ _
        rw [HX.out]
        exact HO0.out
      · rw [hk] at HC HNX
        have hx2 : allF (l.take (i + 1)) name = P ++ [x] := by rw [HNX.out]; simp
        have HX := Lib.hid hx2
        have HC2 := Lib.hid HC
        clear HC hk hx2
        go_wp2_with fail
        generalize W.alloc (Obj.cells #[.string (mkS n), .string (mkS x)] 31) = W4 at *
        generalize W.heap.size = g at *
        refine (HC2.out _).mono ?_
        rintro e w5 ⟨rfl, k, rfl⟩
        have hF5 := HF0.out.draws k
        have p1 := hF5.c1
        have HB5 := Lib.hid (below_some_draws HB0.out k)
        have HO5 := Lib.hid (show (W4.drewN k).ownsRow w.heap.size 9 1 u5 P.length (strs P) from HO0.out)
        have hs5 : w.heap.size ≤ (W4.drewN k).heap.size := hs0
        clear hF5
        go_wp2_with fail
        refine (HCl.out _).mono ?_
        rintro e w6 ⟨rfl, hb⟩
        have hown' := own_keep HO5.out hb
        have hB' : w.heap.size ≤ w6.heap.size := Nat.le_trans hs5 hb.size
        have HB6 := Lib.hid (HB5.out.trans (hb.mono hs5))
        clear hb p1
        go_wp2_with (at_builtin; refine wpList_append_own _ rfl _ _ 26 rfl w.heap.size 9 i0 (.string .empty) 1 16 Tryz.underlying26 hi0 hz0 hz1 hz2 rfl (by decide) _ _ _ rfl (hown'.alloc _) ⟨w6.heap.size, 0, none⟩ 1 1 [.string (mkS x)] rfl rfl ?c1 ?c2 ?c3 ?c4 ?c5 ?_)
        case c1 => exact cell_one_new _ _ _
        case c2 => simp [Value.oneCell']
        case c3 => unfold maxLen; omega
        case c4 => omega
        case c5 => simp; omega
        intro v' w1 hown1 hg1 _
        have hb1 : Below w.heap.size w w1 := HB6.out.trans (((Below.refl w.heap.size w6).alloc hB' _).trans (below_of_grown hg1 (hown'.alloc _) (by simp; omega)))
        have HB7 := Lib.hid hb1
        have HO7 := Lib.hid hown1
        clear hb1 hown1 hg1 hown'
        go_wp2_with fail
        refine ⟨⟨i + 1, hlt, by go_num, ?_, HB7⟩, by simp [RowKit.intOf]; omega⟩
        show World.ownsRow _ _ _ _ _ _ _
        rw [HX.out, List.length_append, strs_append]
        exact HO7.out
    · have hil : l.take i = l := List.take_of_length_le (by omega)
      rw [hil] at HO
      go_wp2_with fail
      go_ret
      exact ⟨u5, rfl, HO.out, HB.out⟩
end Tk
end Go.Proofs.YthooghgiokgdhaaGreatDoor
namespace Go.Proofs.YthooghgiokgdhaaGreatDoor
open Go.RowKit
namespace Tk

set_option maxHeartbeats 400000 in
theorem closing_any (s : ByteArray) (i : Nat) (w : World) (h : s.size ≤ 1099511627776) (hi : i < s.size) :
    Calls Tryz.prog 171 #[.string s, .int .i64 i] w fun r w' => r = .returned (.int .i64 (closing (bs s) i)) ∧ w = w' := by
  have hlen := length_bs s
  have HL := Lib.hid hlen
  clear hlen
  go_enter Tryz.func171, Tryz.ntmps171
  go_wp2_with fail
  go_step3
  go_wp2_with fail
  go_step3
  go_wp2_with fail
  go_loop [5] (fun v => ∃ k : Nat, k ≤ s.size + 1 ∧ v = .int .i64 k ∧ Hid (closing (bs s) i = k + closeLen ((bs s).drop k))) (fun v => (s.size + 2 - (RowKit.intOf v).toNat))
  case atStart => exact ⟨i + 1, by omega, by go_num, rfl⟩
  case round =>
    obtain ⟨k, hk, rfl, hR⟩ := hrel
    by_cases hlt : k < s.size
    · have hdr := drop_cons (bs s) k (by rw [HL.out]; exact hlt)
      rw [getD_bs s k hlt] at hdr
      have HD := Lib.hid hdr
      clear hdr
      go_wp2_with fail
      · have h92 : ((s[k].toNat : Int) == 92) = true := by assumption
        have e := u8_is s[k] 92 (by omega) h92
        refine ⟨⟨k + 2, by omega, by go_num, ?_⟩, by simp [RowKit.intOf]; omega⟩
        show _ = _
        rw [hR.out, closeLen_bs _ (by rw [HD.out, e]; rfl), List.drop_drop]
        omega
      · have h34 : ((s[k].toNat : Int) == 34) = true := by assumption
        have e := u8_is s[k] 34 (by omega) h34
        have fin : closing (bs s) i = k := by
          rw [hR.out, HD.out, e]
          exact (congrArg (k + ·) (closeLen_q _))
        go_ret
        exact ⟨by rw [fin]; rfl, rfl⟩
      · have h92 : ((s[k].toNat : Int) == 92) = false := by assumption
        have h34 : ((s[k].toNat : Int) == 34) = false := by assumption
        refine ⟨⟨k + 1, by omega, by go_num, ?_⟩, by simp [RowKit.intOf]; omega⟩
        show _ = _
        rw [hR.out, HD.out, closeLen_o _ _ (u8_not _ 92 h92 (by omega)) (u8_not _ 34 h34 (by omega))]
        omega
    · have hdr : (bs s).drop k = [] := List.drop_eq_nil_of_le (by rw [HL.out]; omega)
      have fin : closing (bs s) i = k := by rw [hR.out, hdr]; rfl
      have HF := Lib.hid fin
      clear fin hdr
      go_wp2_with fail
      go_ret
      exact ⟨by rw [HF.out]; rfl, rfl⟩
end Tk
end Go.Proofs.YthooghgiokgdhaaGreatDoor
namespace Go.Proofs.YthooghgiokgdhaaGreatDoor
open Go.RowKit
namespace Tk

set_option maxHeartbeats 400000 in
theorem appendPart_any (base : Nat) (v : Value) (P : List Bs) (s : ByteArray) (w : World) (hown : w.ownsRow base 9 1 v P.length (strs P)) (hB : base ≤ w.heap.size) (hs : s.size ≤ 1099511627776) (hP : P.length ≤ 4398046511104) :
    Calls Tryz.prog 172 #[v, .string s] w (ListPost base (P ++ addP (trimL (bs s))) w) := by
  obtain ⟨i0, hi, hz0, hz1, hz2⟩ := info_parts strInfo
  have HT := Lib.hid (trim_any s w hs)
  have HO := Lib.hid hown
  have hl := trim_sublist (bs s)
  rw [length_bs] at hl
  clear hown
  generalize trimL (bs s) = t at *
  by_cases he : t = []
  · subst he
    have hne : (mkS []).toList.isEmpty = true := by rw [toList_bs]; rfl
    go_enter Tryz.func172, Tryz.ntmps172
    go_wp2_with fail
    refine HT.out.mono ?_
    rintro e w' ⟨rfl, hb⟩
    have HB := Lib.hid hb
    clear hb
    go_wp2_with fail
    go_ret
    refine ⟨v, rfl, ?_, HB.out.mono hB⟩
    have e : P ++ addP [] = P := by simp [addP]
    rw [e]
    exact World.ownsRow.kept HO.out (row := none) ⟨HB.out.os, HB.out.tape, HB.out.output, HB.out.size, fun k hk _ => HB.out.block k hk⟩ (by cases h : v.ownBlock <;> simp)
  · have hne : (mkS t).toList.isEmpty = false := by rw [toList_bs, bs_mkS]; simpa using he
    have hadd : addP t = [t] := by unfold addP; rw [if_neg he]
    go_enter Tryz.func172, Tryz.ntmps172
    go_wp2_with fail
    refine HT.out.mono ?_
    rintro e w' ⟨rfl, hb⟩
    have hown' : w'.ownsRow base 9 1 v P.length (strs P) := World.ownsRow.kept HO.out (row := none) ⟨hb.os, hb.tape, hb.output, hb.size, fun k hk _ => hb.block k hk⟩ (by cases h : v.ownBlock <;> simp)
    have hB' : base ≤ w'.heap.size := Nat.le_trans hB hb.size
    have HB := Lib.hid (hb.mono hB)
    clear hb
    go_wp2_with (at_builtin; refine wpList_append_own _ rfl _ _ 26 rfl base 9 i0 (.string .empty) 1 16 Tryz.underlying26 hi hz0 hz1 hz2 rfl (by decide) _ _ _ rfl (hown'.alloc _) ⟨w'.heap.size, 0, none⟩ 1 1 [.string (mkS t)] rfl rfl ?c1 ?c2 ?c3 ?c4 ?c5 ?_)
    case c1 => exact cell_one_new _ _ _
    case c2 => simp [Value.oneCell']
    case c3 => unfold maxLen; omega
    case c4 => omega
    case c5 => simp; omega
    intro v' w1 hown1 hg1 _
    have hb1 : Below base w w1 := HB.out.trans (((Below.refl base w').alloc hB' _).trans (below_of_grown hg1 (hown'.alloc _) (by simp; omega)))
    have HB1 := Lib.hid hb1
    have HO1 := Lib.hid hown1
    clear hb1 hown1 hg1
    go_wp2_with fail
    go_ret
    refine ⟨v', rfl, ?_, HB1.out⟩
    rw [hadd, List.length_append, strs_append]
    exact HO1.out
end Tk
end Go.Proofs.YthooghgiokgdhaaGreatDoor
namespace Go.Proofs.YthooghgiokgdhaaGreatDoor
open Go.RowKit
namespace Tk

set_option maxHeartbeats 1000000 in
theorem split_any (s : ByteArray) (w : World) (hs : s.size ≤ 1099511627776) :
    Calls Tryz.prog 105 #[.string s] w (ListPost w.heap.size (splitL (bs s)) w) := by
  have HL := Lib.hid (length_bs s)
  go_enter Tryz.func105, Tryz.ntmps105
  go_wp2_with fail
  go_loopw [3, 4, 5] (fun v vb vi wr => ∃ (i b : Nat) (P : List Bs), i ≤ s.size + 2 ∧ b ≤ s.size ∧ b ≤ i ∧ P.length ≤ i ∧ vi = .int .i64 i ∧ vb = .int .i64 b ∧ Hid (wr.ownsRow w.heap.size 9 1 v P.length (strs P)) ∧ Hid (Below w.heap.size w wr) ∧ Hid (splitL (bs s) = P ++ splAt (bs s) b i)) (fun _ _ vi _ => s.size + 2 - (RowKit.intOf vi).toNat)
  case atStart => exact ⟨0, 0, [], by omega, by omega, by omega, by simp, rfl, rfl, World.ownsRow_nil _ _ _ _, Below.refl _ _, splAt_start _⟩
  case round =>
    obtain ⟨i, b, P, hi, hb, hbi, hP, rfl, rfl, HO, HB, HS⟩ := hrel
    rename World => W
    rename Value => v
    by_cases hlt : i < s.size
    · have hgd := getD_bs s i hlt
      have HG := Lib.hid hgd
      clear hgd
      have hll : i < (bs s).length := by rw [HL.out]; exact hlt
      have HLL := Lib.hid hll
      clear hll
      go_wp2_with fail
      · have h34 : ((s[i].toNat : Int) == 34) = true := by assumption
        have e := HG.out.trans (u8_is s[i] 34 (by omega) h34)
        have hcl := closeLen_le ((bs s).drop (i + 1))
        rw [List.length_drop, HL.out] at hcl
        have H2 : Hid (splitL (bs s) = P ++ splAt (bs s) b (closing (bs s) i + 1)) := by
          show _ = _
          rw [HS.out, splAt_quote (bs s) b i HLL.out hbi e]; rfl
        have hc0 : i + 1 ≤ closing (bs s) i := by unfold closing; omega
        have hc1 : closing (bs s) i ≤ s.size + 1 := by unfold closing; omega
        clear hcl
        refine (closing_any s i _ hs hlt).mono ?_
        rintro e w' ⟨rfl, rfl⟩
        generalize closing (bs s) i = j at *
        go_wp2_with fail
        go_roundw
        case rel => exact ⟨j + 1, b, P, by omega, by omega, by omega, by omega, by go_num, rfl, HO, HB, H2⟩
        case measure => simp [RowKit.intOf]; omega
      · have h44 : ((s[i].toNat : Int) == 44) = true := by assumption
        have e := HG.out.trans (u8_is s[i] 44 (by omega) h44)
        refine (appendPart_any w.heap.size _ P (s.extract b i) _ HO.out HB.out.size (by rw [← length_bs, bs_extract, List.length_take]; omega) (by omega)).mono ?_
        rintro e w' ⟨v', rfl, ho', hb'⟩
        have H2 : Hid (splitL (bs s) = (P ++ addP (trimL (bs (s.extract b i)))) ++ splAt (bs s) (i + 1) (i + 1)) := by
          show _ = _
          rw [HS.out, splAt_comma (bs s) b i HLL.out e, bs_extract, List.append_assoc]
        have HB2 := Lib.hid (HB.out.trans hb')
        have HO2 := Lib.hid ho'
        clear hb' ho'
        have hlen : (P ++ addP (trimL (bs (s.extract b i)))).length ≤ i + 1 := by
          rw [List.length_append]; unfold addP; split <;> simp <;> omega
        generalize P ++ addP (trimL (bs (s.extract b i))) = P2 at *
        go_wp2_with fail
        go_roundw
        case rel => exact ⟨i + 1, i + 1, P2, by omega, by omega, by omega, by omega, by go_num, by go_num, HO2, HB2, H2⟩
        case measure => simp [RowKit.intOf]; omega
      · have h34 : ((s[i].toNat : Int) == 34) = false := by assumption
        have h44 : ((s[i].toNat : Int) == 44) = false := by assumption
        have n34 : (bs s).getD i 0 ≠ 34 := fun h => u8_not s[i] 34 h34 (by omega) (HG.out.symm.trans h)
        have n44 : (bs s).getD i 0 ≠ 44 := fun h => u8_not s[i] 44 h44 (by omega) (HG.out.symm.trans h)
        refine ⟨⟨i + 1, b, P, by omega, by omega, by omega, by omega, by go_num, rfl, HO, HB, ?_⟩, by simp [RowKit.intOf]; omega⟩
        show _ = _
        rw [HS.out, splAt_other (bs s) b i HLL.out hbi n44 n34]
    · go_wp2_with fail
      refine (appendPart_any w.heap.size _ P (s.extract b s.size) _ HO.out HB.out.size (by rw [← length_bs, bs_extract, List.length_take]; omega) (by omega)).mono ?_
      rintro e w' ⟨v', rfl, ho', hb'⟩
      have H2 : Hid (splitL (bs s) = P ++ addP (trimL (bs (s.extract b s.size)))) := by
        show _ = _
        rw [HS.out, splAt_end (bs s) b i (by rw [HL.out]; omega), bs_extract, List.take_of_length_le (by rw [List.length_drop, HL.out]; exact Nat.le_refl _)]
      have HB2 := Lib.hid (HB.out.trans hb')
      have HO2 := Lib.hid ho'
      clear hb' ho'
      go_wp2_with fail
      go_ret
      refine ⟨v', rfl, ?_, HB2.out⟩
      rw [H2.out]
      exact HO2.out
end Tk
end Go.Proofs.YthooghgiokgdhaaGreatDoor
namespace Go.Proofs.YthooghgiokgdhaaGreatDoor
open Go.RowKit
namespace Tk

/-- a slice that holds these texts -/
def IsStrs (w : World) (v : Value) (l : List Bs) : Prop :=
  ∃ (a : Option Addr) (c : Nat), v = .slice a l.length c ∧ ∀ j t, l[j]? = some t → ∃ b o, a = some ⟨b, o, none⟩ ∧ w.cell? ⟨b, o + j, none⟩ = some (.string (mkS t))

theorem isStrs_own {w : World} {base : Nat} {v : Value} {l : List Bs} (h : w.ownsRow base 9 1 v l.length (strs l)) : IsStrs w v l := by
  rcases h.2 with ⟨hv, hn⟩ | ⟨g, cap, cur, hv, hb, hg, -⟩
  · exact ⟨none, 0, by rw [hv, hn], fun j t hj => by simp [List.eq_nil_of_length_eq_zero hn] at hj⟩
  · refine ⟨some ⟨g, 0, none⟩, cap, hv, fun j t hj => ⟨g, 0, rfl, ?_⟩⟩
    have := h.cells (g := g) (by rw [hv]; rfl) j (.string (mkS t)) (by simp [strs, hj])
    rw [Nat.zero_add]
    by_cases hj0 : j = 0
    · subst hj0; simpa [Addr.add] using this
    · simpa [Addr.add, hj0] using this

theorem isStrs_later {w w' : World} {v : Value} {l : List Bs} {B : Nat} (h : IsStrs w v l) (hb : Below B w w') (hv : ∀ k, v.ownBlock = some k → k < B) : IsStrs w' v l := by
  obtain ⟨a, c, rfl, hc⟩ := h
  refine ⟨a, c, rfl, fun j t hj => ?_⟩
  obtain ⟨b, o, rfl, h2⟩ := hc j t hj
  exact ⟨b, o, rfl, (hb.cell (p := ⟨b, o + j, none⟩) (hv b rfl)).trans h2⟩

theorem isStrs_lit (w : World) (l : List Bs) (cs : Array Value) (t : TypeId) (c : Nat) (h : cs = (strs l).toArray) : IsStrs (w.alloc (.cells cs t)) (.slice (some ⟨w.heap.size, 0, none⟩) l.length c) l := by
  refine ⟨_, c, rfl, fun j x hj => ⟨w.heap.size, 0, rfl, ?_⟩⟩
  rw [Nat.zero_add, World.cell?_alloc_new, h]
  simp [strs, hj]

theorem isStrs_alloc {w : World} {base : Nat} {v : Value} {l : List Bs} (h : w.ownsRow base 9 1 v l.length (strs l)) (o : Obj) : IsStrs (w.alloc o) v l :=
  isStrs_own (h.alloc o)

set_option maxHeartbeats 1000000 in
theorem same_any (v1 v2 : Value) (l m : List Bs) (w : World) (h1 : IsStrs w v1 l) (h2 : IsStrs w v2 m) (hl : l.length ≤ 1099511627776) (_hm : m.length ≤ 1099511627776) :
    Calls Tryz.prog 64 #[v1, v2] w fun r w' => r = .returned (.bool (decide (l = m))) ∧ ∃ n, w' = w.drewN n := by
  obtain ⟨a1, c1, rfl, k1⟩ := h1
  obtain ⟨a2, c2, rfl, k2⟩ := h2
  have K1 := Lib.hid k1
  have K2 := Lib.hid k2
  clear k1 k2
  by_cases hne : l.length = m.length
  · have hb : ((l.length : Int) != (m.length : Int)) = false := by rw [hne]; simp
    have HN := Lib.hid hne
    clear hne
    go_enter Tryz.func64, Tryz.ntmps64
    go_wp2_with fail
    go_loopw [5] (fun v wr => ∃ (j n : Nat), j ≤ l.length ∧ v = .int .i64 j ∧ wr = w.drewN n ∧ Hid (decide (l = m) = decide (l.drop j = m.drop j))) (fun v _ => l.length - (RowKit.intOf v).toNat)
    case atStart => exact ⟨0, 0, Nat.zero_le _, rfl, rfl, rfl⟩
    case round =>
      obtain ⟨j, n, hj, rfl, rfl, hd⟩ := hrel
      by_cases hlt : j < l.length
      · obtain ⟨b1, o1, rfl, e1⟩ := K1.out j (l.getD j []) (by simp [List.getD, hlt])
        obtain ⟨b2, o2, rfl, e2⟩ := K2.out j (m.getD j []) (by have := HN.out; simp [List.getD, show j < m.length by omega])
        have hjm : j < m.length := by have := HN.out; omega
        have s1 : l.drop j = l.getD j [] :: l.drop (j + 1) := by rw [List.drop_eq_getElem_cons hlt]; simp [List.getD, hlt]
        have s2 : m.drop j = m.getD j [] :: m.drop (j + 1) := by rw [List.drop_eq_getElem_cons hjm]; simp [List.getD, hjm]
        have S1 := Lib.hid s1
        have S2 := Lib.hid s2
        clear s1 s2
        generalize l.getD j [] = x at *
        generalize m.getD j [] = y at *
        go_wp2_with fail
        go_quiet (fail)
        go_wp2_with fail
        · have hx : (!(mkS x).toList == (mkS y).toList) = true := by assumption
          have hxy : x ≠ y := by intro e; subst e; simp at hx
          have fin : decide (l = m) = false := by
            rw [hd.out, S1.out, S2.out]; simp [hxy]
          go_ret
          exact ⟨by rw [fin]; rfl, _, World.drewN_drewN _ _ _⟩
        · have hx : (!(mkS x).toList == (mkS y).toList) = false := by assumption
          have hxy : x = y := by
            rw [toList_bs, toList_bs, bs_mkS, bs_mkS] at hx
            simpa using hx
          refine ⟨⟨j + 1, _, by omega, by go_num, rfl, ?_⟩, by simp [RowKit.intOf]; omega⟩
          show _ = _
          rw [hd.out, S1.out, S2.out, hxy]; simp
      · have fin : decide (l = m) = true := by
          have := HN.out
          rw [hd.out, List.drop_eq_nil_of_le (by omega), List.drop_eq_nil_of_le (by omega)]; simp
        have HF := Lib.hid fin
        clear fin
        go_wp2_with fail
        go_ret
        exact ⟨by rw [HF.out]; rfl, _, rfl⟩
  · have hb : ((l.length : Int) != (m.length : Int)) = true := by simp; omega
    have hf : decide (l = m) = false := by simp; exact fun e => hne (congrArg _ e)
    have HF := Lib.hid hf
    clear hf hne
    go_enter Tryz.func64, Tryz.ntmps64
    go_wp2_with fail
    go_ret
    exact ⟨by rw [HF.out]; rfl, 0, rfl⟩
end Tk
end Go.Proofs.YthooghgiokgdhaaGreatDoor
namespace Go.Proofs.YthooghgiokgdhaaGreatDoor
open Go.RowKit
namespace Tk

/-- an owned row in a later world -/
theorem own_later {w w' : World} {B : Nat} {v : Value} {n : Nat} {xs : List Value} {e : TypeId} (h : w.ownsRow B e 1 v n xs) (hb : Below w.heap.size w w') : w'.ownsRow B e 1 v n xs :=
  World.ownsRow.kept h (row := none) ⟨hb.os, hb.tape, hb.output, hb.size, fun k hk _ => hb.block k hk⟩ (by cases h : v.ownBlock <;> simp)

theorem join_run (w : World) (o : Oper) (a : Act) (K : Act → World → Prop) (Q : Exit → Act → World → Prop) (s x : Operand)
    (ho : o.op = .call { callee := .builtin .append, args := #[s, x], argTypes := #[26, 26] })
    (base base2 : Nat) (v v2 : Value) (P R : List Bs) (hs : a.eval s = v) (hx : a.eval x = v2) (h1 : w.ownsRow base 9 1 v P.length (strs P)) (h2 : w.ownsRow base2 9 1 v2 R.length (strs R))
    (hB : base ≤ w.heap.size) (hP : P.length ≤ 1048576) (hR : R.length ≤ 1048576)
    (h : ∀ v' w', w'.ownsRow base 9 1 v' (P ++ R).length (strs (P ++ R)) → Below base w w' → K (a.put o.dst v') w') : o.wp Tryz.prog a w K Q := by
  obtain ⟨i0, hi, hz0, hz1, hz2⟩ := info_parts strInfo
  rcases h2.2 with ⟨hv, hn⟩ | ⟨g, cap, cur, hv, hb, hg, hc⟩
  · have hrun := run_append_owned_none (P := Tryz.prog) (w := w) base 26 o.type 9 i0 1 Tryz.underlying26 hi v P.length (strs P) h1
    have hR0 : R = [] := List.eq_nil_of_length_eq_zero hn
    subst hR0
    unfold Oper.wp
    simp [execOp, ho, resolve, invoke, builtin, hs, hx, hv, hrun, Result.andThen]
    exact h v w (by simpa using h1) (Below.refl _ _)
  · refine wp_append_own (P := Tryz.prog) w s x 26 ho base 9 i0 (.string .empty) 1 16 Tryz.underlying26 hi hz0 hz1 hz2 rfl (by decide) v P.length (strs P) hs h1 ⟨g, 0, none⟩ R.length cap (strs R) (by rw [hx, hv]) (by simp [strs])
      (h2.cells (g := g) (by rw [hv]; rfl)) (fun u hu => by
        simp only [strs, List.mem_map] at hu
        obtain ⟨t, -, rfl⟩ := hu
        rfl) (by unfold maxLen; omega) (by omega) hB ?_
    intro v' w' ho' hg' _
    refine h v' w' ?_ (below_of_grown hg' h1 hB)
    rw [List.length_append, strs_append]
    exact ho'

theorem join_guarded {ops : Array Oper} {rest : List Oper} {w : World} {o : Oper} {a : Act} {Q : Exit → Act → World → Prop} (hw : Region.wanted o (yielded ops a.tmps) = true) (s x : Operand)
    (ho : o.op = .call { callee := .builtin .append, args := #[s, x], argTypes := #[26, 26] })
    (base base2 : Nat) (v v2 : Value) (P R : List Bs) (hs : a.eval s = v) (hx : a.eval x = v2) (h1 : w.ownsRow base 9 1 v P.length (strs P)) (h2 : w.ownsRow base2 9 1 v2 R.length (strs R))
    (hB : base ≤ w.heap.size) (hP : P.length ≤ 1048576) (hR : R.length ≤ 1048576)
    (h : ∀ v' w', w'.ownsRow base 9 1 v' (P ++ R).length (strs (P ++ R)) → Below base w w' → wpList Tryz.prog ops Q rest (a.put o.dst v') w') : wpList Tryz.prog ops Q (o :: rest) a w :=
  BigFrame.wpList_want hw fun K hK => join_run w o a K Q s x ho base base2 v v2 P R hs hx h1 h2 hB hP hR fun v' w' a b => hK _ _ (h v' w' a b)
end Tk
end Go.Proofs.YthooghgiokgdhaaGreatDoor
namespace Go.Proofs.YthooghgiokgdhaaGreatDoor
open Go.RowKit
namespace Tk

def joinB (P : List Bs) : Bs := Lib.join P [44, 32]
theorem joinB_nil : joinB [] = [] := rfl
theorem map_mkS : ∀ (P : List Bs), (P.map mkS).map (·.data.toList) = P
  | [] => rfl
  | x :: t => by rw [List.map_cons, List.map_cons, map_mkS t]; rfl
theorem sum_all (name : Bs) : ∀ l : List (Bs × Bs), Lib.lens (allF l name) + 2 * (allF l name).length ≤ sumF l
  | [] => by simp [allF, Lib.lens, sumF]
  | f :: t => by
    have ih := sum_all name t
    have e : allF (f :: t) name = (if isN name f then [f.2] else []) ++ allF t name := by unfold allF; cases h : isN name f <;> simp [h]
    rw [e]
    unfold sumF
    cases isN name f
    · simp; omega
    · simp [Lib.lens] at *; omega
theorem joinB_le (name : Bs) (l : List (Bs × Bs)) : (joinB (allF l name)).length ≤ sumF l := by
  have h := sum_all name l
  unfold joinB
  cases hh : allF l name with
  | nil => simp [Lib.join_nil]
  | cons x r => rw [Lib.join_length]; rw [hh] at h; simp only [List.length_cons, List.length_nil] at *; omega
/-- what List tells -/
def listF (l : List (Bs × Bs)) (name : Bs) : List Bs := (allF l name).flatMap splitL
theorem flat_len : ∀ P : List Bs, (P.flatMap splitL).length ≤ Lib.lens P + P.length
  | [] => by simp
  | x :: t => by
    have := flat_len t
    have h2 := split_len x
    simp [Lib.lens] at *; omega
theorem listF_len (name : Bs) (l : List (Bs × Bs)) : (listF l name).length ≤ sumF l := by
  have := flat_len (allF l name)
  have h := sum_all name l
  unfold listF; omega
theorem flat_piece : ∀ (P : List Bs) (p : Bs), p ∈ P.flatMap splitL → p.length ≤ Lib.lens P
  | [], p, h => by simp at h
  | x :: t, p, h => by
    rw [List.flatMap_cons, List.mem_append] at h
    rcases h with h | h
    · have := split_piece x p h; simp [Lib.lens] at *; omega
    · have := flat_piece t p h; simp [Lib.lens] at *; omega
theorem listF_piece (name : Bs) (l : List (Bs × Bs)) (p : Bs) (h : p ∈ listF l name) : p.length ≤ sumF l := by
  have := flat_piece _ p h
  have h := sum_all name l
  omega
theorem all_piece (name : Bs) (l : List (Bs × Bs)) (p : Bs) (h : p ∈ allF l name) : p.length ≤ sumF l := by
  have h2 := sum_all name l
  have : ∀ (P : List Bs), p ∈ P → p.length ≤ Lib.lens P := by
    intro P
    induction P with
    | nil => intro h; simp at h
    | cons x t ih =>
      intro h
      rcases List.mem_cons.1 h with rfl | h
      · simp [Lib.lens]
      · have := ih h; simp [Lib.lens] at *; omega
  have := this _ h
  omega
theorem take_flat (P : List Bs) (i : Nat) (h : i < P.length) : (P.take (i + 1)).flatMap splitL = (P.take i).flatMap splitL ++ splitL (P.getD i []) := by
  rw [List.take_succ_eq_append_getElem h, List.flatMap_append]; simp [List.getD, h]
theorem flat_sub (P : List Bs) (i : Nat) : ((P.take i).flatMap splitL).length ≤ (P.flatMap splitL).length := by
  have e : P.flatMap splitL = (P.take i).flatMap splitL ++ (P.drop i).flatMap splitL := by rw [← List.flatMap_append, List.take_append_drop]
  rw [e, List.length_append]; omega

theorem sum_each (l : List (Bs × Bs)) (hz : sumF l ≤ 1099511627) : ∀ f ∈ l, f.1.length ≤ 1099511627776 ∧ f.2.length ≤ 1099511627776 := fun f hf => by
  have := sumF_mem l f hf; omega

set_option maxHeartbeats 4000000 in
set_option maxRecDepth 100000 in
theorem jnone_any (c : Nat) (a : Option Addr) (w : World) :
    Calls Tryz.prog 99 #[.slice a 0 c, .string ⟨#[44, 32]⟩] w fun e w' => e = .returned (.string ⟨#[]⟩) ∧ Below w.heap.size w w' := by
  go_enter Tryz.func99, Tryz.ntmps99
  go_wp2_with fail
  go_ret
  exact ⟨rfl, Below.refl _ _⟩
theorem joinP_any (v : Value) (P : List Bs) (base : Nat) (w : World) (ho : w.ownsRow base 9 1 v P.length (strs P)) (hP : P.length ≤ 1048576) (hj : (joinB P).length ≤ 1099511627776) :
    Calls Tryz.prog 99 #[v, .string ⟨#[44, 32]⟩] w fun e w' => e = .returned (.string (mkS (joinB P))) ∧ Below w.heap.size w w' := by
  rcases ho.2 with ⟨hv, hn⟩ | ⟨g, cap, cur, hv, hb, hg, hcap, -⟩
  · have hP0 : P = [] := List.eq_nil_of_length_eq_zero hn
    subst hP0
    rw [hv]
    exact jnone_any 0 none w
  · have hcells : ∀ (j : Nat) (x : ByteArray), (P.map mkS)[j]? = some x → w.cell? ⟨g, 0 + j, none⟩ = some (.string x) := by
      intro j x hx
      rw [List.getElem?_map] at hx
      obtain ⟨t, ht, rfl⟩ := Option.map_eq_some_iff.1 hx
      obtain ⟨a, c, e, hc⟩ := isStrs_own ho
      rw [hv] at e
      injection e with e1 _ _
      obtain ⟨b, o, e3, hc⟩ := hc j t ht
      rw [← e1] at e3
      injection e3 with e3
      injection e3 with e4 e5
      subst e4 e5
      exact hc
    have hlt := (ho.lt g (by rw [hv]; rfl)).2
    have h := Tryz.strings_Join g 0 cap (P.map mkS) ⟨#[44, 32]⟩ w hcells hlt (by rw [List.length_map]; omega) (by rw [List.length_map]; exact hcap) (by rw [map_mkS]; exact Nat.le_trans hj (by omega))
    rw [map_mkS, List.length_map] at h
    rw [hv]
    exact h

set_option maxHeartbeats 4000000 in
set_option maxRecDepth 100000 in
theorem fget_any (v : Value) (l : List (Bs × Bs)) (name : Bs) (w : World) (hs : IsFlds w v l) (hz : sumF l ≤ 1099511627) (hn : name.length ≤ 1099511627776) (hl : l.length ≤ 1048576) :
    Calls Tryz.prog 283 #[v, .string (mkS name)] w fun e w' => e = .returned (.tuple #[.string (mkS (joinB (allF l name))), .bool (decide (0 < (allF l name).length))]) ∧ Below w.heap.size w w' := by
  have HA := Lib.hid (fall_any v l name w hs (sum_each l hz) hn hl)
  unfold ListPost at HA
  obtain ⟨a, cap, rfl⟩ : ∃ a cap, v = .slice a l.length cap := by obtain ⟨a, c, h, -⟩ := hs; exact ⟨a, c, h⟩
  have hjl := joinB_le name l
  have hal := allF_len l name
  have hj : (joinB (allF l name)).length ≤ 1099511627776 := by omega
  have hP : (allF l name).length ≤ 1048576 := by omega
  clear hs hz hjl hal
  generalize allF l name = P at *
  go_enter Tryz.func283, Tryz.ntmps283
  go_wp2_with fail
  refine HA.out.mono ?_
  rintro e w1 ⟨v1, rfl, ho, hb⟩
  have HB := Lib.hid hb
  have HJ := Lib.hid (joinP_any v1 P _ w1 ho hP hj)
  obtain ⟨a1, c1, rfl⟩ : ∃ a c, v1 = .slice a P.length c := by obtain ⟨a, c, h, -⟩ := isStrs_own ho; exact ⟨a, c, h⟩
  clear ho hb hj
  by_cases hp : 0 < P.length
  all_goals
    go_wp2_with fail
    refine HJ.out.mono ?_
    rintro e w2 ⟨rfl, hb⟩
    have HB2 := Lib.hid (HB.out.trans (hb.mono HB.out.size))
    clear hb
    go_wp2_with fail
    go_ret2
    exact ⟨by first | (rw [decide_eq_true hp]; done) | (rw [decide_eq_false hp]; done) | (simp [hp]; done) | rfl, HB2.out⟩

end Tk
end Go.Proofs.YthooghgiokgdhaaGreatDoor
