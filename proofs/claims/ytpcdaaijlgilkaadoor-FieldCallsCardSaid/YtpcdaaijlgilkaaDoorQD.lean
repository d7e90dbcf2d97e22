/- TokC Same Join FldV NamP RefNm RefBy RefSp RefF RefD RefK RngL NmA, put together. -/
import Derived.Test.YtpcdaaijlgilkaaDoorQC
import Derived.Laws.AppendOwnNone
import Derived.BigFrame
import Derived.Test.YtpcdaaijlgilkaaDoorQB
import Derived.Test.YtpcdaaijlgilkaaDoorQA
import Derived.Deep.Onto
import Derived.Lib.Join
import Derived.Deep.RegionHeld3
import Derived.RangeFuncFrom
import Derived.RangeFuncWrites
import Derived.RangeFuncIn
import Derived.RangeFuncNested
import Derived.RangeFuncBound
import Derived.RangeFuncCalls
import Derived.RangeFuncLeaves
import Derived.RangeFuncBox
import Derived.OwnWalkIn
import Derived.TacticsInMore
import Derived.LoopNIn
import Derived.LoopIn
import Derived.Maps.OwnIn
import Derived.Maps.Views
import Derived.StringKeys
namespace Go.Proofs.YtpcdaaijlgilkaaDoor
open Go.RowKit
namespace Tk

set_option maxHeartbeats 1000000 in
theorem split_any (s : ByteArray) (w : World) (hs : s.size ≤ 1099511627776) :
    Calls Tryd.prog 42 #[.string s] w (ListPost w.heap.size (splitL (bs s)) w) := by
  have HL := Lib.hid (length_bs s)
  go_enter Tryd.func42, Tryd.ntmps42
  go_wp2_with fail
  go_loopw [3, 4, 5] (fun v vb vi wr => ∃ (i b : Nat) (P : List Bs), i ≤ s.size + 2 ∧ b ≤ s.size ∧ b ≤ i ∧ P.length ≤ i ∧ vi = .int .i64 i ∧ vb = .int .i64 b ∧ Hid (wr.ownsRow w.heap.size 9 1 v P.length (strs P)) ∧ Hid (Below w.heap.size w wr) ∧ Hid (splitL (bs s) = P ++ splAt (bs s) b i)) (fun _ _ vi _ => s.size + 2 - (RowKit.intOf vi).toNat)
  case atStart => exact ⟨0, 0, [], by omega, by omega, by omega, by simp, rfl, rfl, World.ownsRow_nil _ _ _ _, Below.refl _ _, splAt_start _⟩
  case round =>
    obtain ⟨i, b, P, hi, hb, hbi, hP, rfl, rfl, HO, HB, HS⟩ := hrel
    rename World => W
    rename Value => v
    by_cases hlt : i < s.size
    · have hgd := getD_bs s i hlt
      have HG := Lib.hid hgd
      clear hgd
      have hll : i < (bs s).length := by rw [HL.out]; exact hlt
      have HLL := Lib.hid hll
      clear hll
      go_wp2_with fail
      · have h34 : ((s[i].toNat : Int) == 34) = true := by assumption
        have e := HG.out.trans (u8_is s[i] 34 (by omega) h34)
        have hcl := closeLen_le ((bs s).drop (i + 1))
        rw [List.length_drop, HL.out] at hcl
        have H2 : Hid (splitL (bs s) = P ++ splAt (bs s) b (closing (bs s) i + 1)) := by
          show _ = _
          rw [HS.out, splAt_quote (bs s) b i HLL.out hbi e]; rfl
        have hc0 : i + 1 ≤ closing (bs s) i := by unfold closing; omega
        have hc1 : closing (bs s) i ≤ s.size + 1 := by unfold closing; omega
        clear hcl
        refine (closing_any s i _ hs hlt).mono ?_
        rintro e w' ⟨rfl, rfl⟩
        generalize closing (bs s) i = j at *
        go_wp2_with fail
        go_roundw
        case rel => exact ⟨j + 1, b, P, by omega, by omega, by omega, by omega, by go_num, rfl, HO, HB, H2⟩
        case measure => simp [RowKit.intOf]; omega
      · have h44 : ((s[i].toNat : Int) == 44) = true := by assumption
        have e := HG.out.trans (u8_is s[i] 44 (by omega) h44)
        refine (appendPart_any w.heap.size _ P (s.extract b i) _ HO.out HB.out.size (by rw [← length_bs, bs_extract, List.length_take]; omega) (by omega)).mono ?_
        rintro e w' ⟨v', rfl, ho', hb'⟩
        have H2 : Hid (splitL (bs s) = (P ++ addP (trimL (bs (s.extract b i)))) ++ splAt (bs s) (i + 1) (i + 1)) := by
          show _ = _
          rw [HS.out, splAt_comma (bs s) b i HLL.out e, bs_extract, List.append_assoc]
        have HB2 := Lib.hid (HB.out.trans hb')
        have HO2 := Lib.hid ho'
        clear hb' ho'
        have hlen : (P ++ addP (trimL (bs (s.extract b i)))).length ≤ i + 1 := by
          rw [List.length_append]; unfold addP; split <;> simp <;> omega
        generalize P ++ addP (trimL (bs (s.extract b i))) = P2 at *
        go_wp2_with fail
        go_roundw
        case rel => exact ⟨i + 1, i + 1, P2, by omega, by omega, by omega, by omega, by go_num, by go_num, HO2, HB2, H2⟩
        case measure => simp [RowKit.intOf]; omega
      · have h34 : ((s[i].toNat : Int) == 34) = false := by assumption
        have h44 : ((s[i].toNat : Int) == 44) = false := by assumption
        have n34 : (bs s).getD i 0 ≠ 34 := fun h => u8_not s[i] 34 h34 (by omega) (HG.out.symm.trans h)
        have n44 : (bs s).getD i 0 ≠ 44 := fun h => u8_not s[i] 44 h44 (by omega) (HG.out.symm.trans h)
        refine ⟨⟨i + 1, b, P, by omega, by omega, by omega, by omega, by go_num, rfl, HO, HB, ?_⟩, by simp [RowKit.intOf]; omega⟩
        show _ = _
        rw [HS.out, splAt_other (bs s) b i HLL.out hbi n44 n34]
    · go_wp2_with fail
      refine (appendPart_any w.heap.size _ P (s.extract b s.size) _ HO.out HB.out.size (by rw [← length_bs, bs_extract, List.length_take]; omega) (by omega)).mono ?_
      rintro e w' ⟨v', rfl, ho', hb'⟩
      have H2 : Hid (splitL (bs s) = P ++ addP (trimL (bs (s.extract b s.size)))) := by
        show _ = _
        rw [HS.out, splAt_end (bs s) b i (by rw [HL.out]; omega), bs_extract, List.take_of_length_le (by rw [List.length_drop, HL.out]; exact Nat.le_refl _)]
      have HB2 := Lib.hid (HB.out.trans hb')
      have HO2 := Lib.hid ho'
      clear hb' ho'
      go_wp2_with fail
      go_ret
      refine ⟨v', rfl, ?_, HB2.out⟩
      rw [H2.out]
      exact HO2.out
end Tk
end Go.Proofs.YtpcdaaijlgilkaaDoor
namespace Go.Proofs.YtpcdaaijlgilkaaDoor
open Go.RowKit
namespace Tk

/-- a slice that holds these texts -/
def IsStrs (w : World) (v : Value) (l : List Bs) : Prop :=
  ∃ (a : Option Addr) (c : Nat), v = .slice a l.length c ∧ ∀ j t, l[j]? = some t → ∃ b o, a = some ⟨b, o, none⟩ ∧ w.cell? ⟨b, o + j, none⟩ = some (.string (mkS t))

theorem isStrs_own {w : World} {base : Nat} {v : Value} {l : List Bs} (h : w.ownsRow base 9 1 v l.length (strs l)) : IsStrs w v l := by
  rcases h.2 with ⟨hv, hn⟩ | ⟨g, cap, cur, hv, hb, hg, -⟩
  · exact ⟨none, 0, by rw [hv, hn], fun j t hj => by simp [List.eq_nil_of_length_eq_zero hn] at hj⟩
  · refine ⟨some ⟨g, 0, none⟩, cap, hv, fun j t hj => ⟨g, 0, rfl, ?_⟩⟩
    have := h.cells (g := g) (by rw [hv]; rfl) j (.string (mkS t)) (by simp [strs, hj])
    rw [Nat.zero_add]
    by_cases hj0 : j = 0
    · subst hj0; simpa [Addr.add] using this
    · simpa [Addr.add, hj0] using this

theorem isStrs_later {w w' : World} {v : Value} {l : List Bs} {B : Nat} (h : IsStrs w v l) (hb : Below B w w') (hv : ∀ k, v.ownBlock = some k → k < B) : IsStrs w' v l := by
  obtain ⟨a, c, rfl, hc⟩ := h
  refine ⟨a, c, rfl, fun j t hj => ?_⟩
  obtain ⟨b, o, rfl, h2⟩ := hc j t hj
  exact ⟨b, o, rfl, (hb.cell (p := ⟨b, o + j, none⟩) (hv b rfl)).trans h2⟩

theorem isStrs_lit (w : World) (l : List Bs) (cs : Array Value) (t : TypeId) (c : Nat) (h : cs = (strs l).toArray) : IsStrs (w.alloc (.cells cs t)) (.slice (some ⟨w.heap.size, 0, none⟩) l.length c) l := by
  refine ⟨_, c, rfl, fun j x hj => ⟨w.heap.size, 0, rfl, ?_⟩⟩
  rw [Nat.zero_add, World.cell?_alloc_new, h]
  simp [strs, hj]

theorem isStrs_alloc {w : World} {base : Nat} {v : Value} {l : List Bs} (h : w.ownsRow base 9 1 v l.length (strs l)) (o : Obj) : IsStrs (w.alloc o) v l :=
  isStrs_own (h.alloc o)

set_option maxHeartbeats 1000000 in
theorem same_any (v1 v2 : Value) (l m : List Bs) (w : World) (h1 : IsStrs w v1 l) (h2 : IsStrs w v2 m) (hl : l.length ≤ 1099511627776) (_hm : m.length ≤ 1099511627776) :
    Calls Tryd.prog 13 #[v1, v2] w fun r w' => r = .returned (.bool (decide (l = m))) ∧ ∃ n, w' = w.drewN n := by
  obtain ⟨a1, c1, rfl, k1⟩ := h1
  obtain ⟨a2, c2, rfl, k2⟩ := h2
  have K1 := Lib.hid k1
  have K2 := Lib.hid k2
  clear k1 k2
  by_cases hne : l.length = m.length
  · have hb : ((l.length : Int) != (m.length : Int)) = false := by rw [hne]; simp
    have HN := Lib.hid hne
    clear hne
    go_enter Tryd.func13, Tryd.ntmps13
    go_wp2_with fail
    go_loopw [5] (fun v wr => ∃ (j n : Nat), j ≤ l.length ∧ v = .int .i64 j ∧ wr = w.drewN n ∧ Hid (decide (l = m) = decide (l.drop j = m.drop j))) (fun v _ => l.length - (RowKit.intOf v).toNat)
    case atStart => exact ⟨0, 0, Nat.zero_le _, rfl, rfl, rfl⟩
    case round =>
      obtain ⟨j, n, hj, rfl, rfl, hd⟩ := hrel
      by_cases hlt : j < l.length
      · obtain ⟨b1, o1, rfl, e1⟩ := K1.out j (l.getD j []) (by simp [List.getD, hlt])
        obtain ⟨b2, o2, rfl, e2⟩ := K2.out j (m.getD j []) (by have := HN.out; simp [List.getD, show j < m.length by omega])
        have hjm : j < m.length := by have := HN.out; omega
        have s1 : l.drop j = l.getD j [] :: l.drop (j + 1) := by rw [List.drop_eq_getElem_cons hlt]; simp [List.getD, hlt]
        have s2 : m.drop j = m.getD j [] :: m.drop (j + 1) := by rw [List.drop_eq_getElem_cons hjm]; simp [List.getD, hjm]
        have S1 := Lib.hid s1
        have S2 := Lib.hid s2
        clear s1 s2
        generalize l.getD j [] = x at *
        generalize m.getD j [] = y at *
        go_wp2_with fail
        go_quiet (fail)
        go_wp2_with fail
        · have hx : (!(mkS x).toList == (mkS y).toList) = true := by assumption
          have hxy : x ≠ y := by intro e; subst e; simp at hx
          have fin : decide (l = m) = false := by
            rw [hd.out, S1.out, S2.out]; simp [hxy]
          go_ret
          exact ⟨by rw [fin]; rfl, _, World.drewN_drewN _ _ _⟩
        · have hx : (!(mkS x).toList == (mkS y).toList) = false := by assumption
          have hxy : x = y := by
            rw [toList_bs, toList_bs, bs_mkS, bs_mkS] at hx
            simpa using hx
          refine ⟨⟨j + 1, _, by omega, by go_num, rfl, ?_⟩, by simp [RowKit.intOf]; omega⟩
          show _ = _
          rw [hd.out, S1.out, S2.out, hxy]; simp
      · have fin : decide (l = m) = true := by
          have := HN.out
          rw [hd.out, List.drop_eq_nil_of_le (by omega), List.drop_eq_nil_of_le (by omega)]; simp
        have HF := Lib.hid fin
        clear fin
        go_wp2_with fail
        go_ret
        exact ⟨by rw [HF.out]; rfl, _, rfl⟩
  · have hb : ((l.length : Int) != (m.length : Int)) = true := by simp; omega
    have hf : decide (l = m) = false := by simp; exact fun e => hne (congrArg _ e)
    have HF := Lib.hid hf
    clear hf hne
    go_enter Tryd.func13, Tryd.ntmps13
    go_wp2_with fail
    go_ret
    exact ⟨by rw [HF.out]; rfl, 0, rfl⟩
end Tk
end Go.Proofs.YtpcdaaijlgilkaaDoor
namespace Go.Proofs.YtpcdaaijlgilkaaDoor
open Go.RowKit
namespace Tk

/-- an owned row in a later world -/
theorem own_later {w w' : World} {B : Nat} {v : Value} {n : Nat} {xs : List Value} {e : TypeId} (h : w.ownsRow B e 1 v n xs) (hb : Below w.heap.size w w') : w'.ownsRow B e 1 v n xs :=
  World.ownsRow.kept h (row := none) ⟨hb.os, hb.tape, hb.output, hb.size, fun k hk _ => hb.block k hk⟩ (by cases h : v.ownBlock <;> simp)

theorem join_run (w : World) (o : Oper) (a : Act) (K : Act → World → Prop) (Q : Exit → Act → World → Prop) (s x : Operand)
    (ho : o.op = .call { callee := .builtin .append, args := #[s, x], argTypes := #[34, 34] })
    (base base2 : Nat) (v v2 : Value) (P R : List Bs) (hs : a.eval s = v) (hx : a.eval x = v2) (h1 : w.ownsRow base 9 1 v P.length (strs P)) (h2 : w.ownsRow base2 9 1 v2 R.length (strs R))
    (hB : base ≤ w.heap.size) (hP : P.length ≤ 1048576) (hR : R.length ≤ 1048576)
    (h : ∀ v' w', w'.ownsRow base 9 1 v' (P ++ R).length (strs (P ++ R)) → Below base w w' → K (a.put o.dst v') w') : o.wp Tryd.prog a w K Q := by
  obtain ⟨i0, hi, hz0, hz1, hz2⟩ := info_parts strInfo
  rcases h2.2 with ⟨hv, hn⟩ | ⟨g, cap, cur, hv, hb, hg, hc⟩
  · have hrun := run_append_owned_none (P := Tryd.prog) (w := w) base 34 o.type 9 i0 1 Tryd.underlying34 hi v P.length (strs P) h1
    have hR0 : R = [] := List.eq_nil_of_length_eq_zero hn
    subst hR0
    unfold Oper.wp
    simp [execOp, ho, resolve, invoke, builtin, hs, hx, hv, hrun, Result.andThen]
    exact h v w (by simpa using h1) (Below.refl _ _)
  · refine wp_append_own (P := Tryd.prog) w s x 34 ho base 9 i0 (.string .empty) 1 16 Tryd.underlying34 hi hz0 hz1 hz2 rfl (by decide) v P.length (strs P) hs h1 ⟨g, 0, none⟩ R.length cap (strs R) (by rw [hx, hv]) (by simp [strs])
      (h2.cells (g := g) (by rw [hv]; rfl)) (fun u hu => by
        simp only [strs, List.mem_map] at hu
        obtain ⟨t, -, rfl⟩ := hu
        rfl) (by unfold maxLen; omega) (by omega) hB ?_
    intro v' w' ho' hg' _
    refine h v' w' ?_ (below_of_grown hg' h1 hB)
    rw [List.length_append, strs_append]
    exact ho'

theorem join_guarded {ops : Array Oper} {rest : List Oper} {w : World} {o : Oper} {a : Act} {Q : Exit → Act → World → Prop} (hw : Region.wanted o (yielded ops a.tmps) = true) (s x : Operand)
    (ho : o.op = .call { callee := .builtin .append, args := #[s, x], argTypes := #[34, 34] })
    (base base2 : Nat) (v v2 : Value) (P R : List Bs) (hs : a.eval s = v) (hx : a.eval x = v2) (h1 : w.ownsRow base 9 1 v P.length (strs P)) (h2 : w.ownsRow base2 9 1 v2 R.length (strs R))
    (hB : base ≤ w.heap.size) (hP : P.length ≤ 1048576) (hR : R.length ≤ 1048576)
    (h : ∀ v' w', w'.ownsRow base 9 1 v' (P ++ R).length (strs (P ++ R)) → Below base w w' → wpList Tryd.prog ops Q rest (a.put o.dst v') w') : wpList Tryd.prog ops Q (o :: rest) a w :=
  BigFrame.wpList_want hw fun K hK => join_run w o a K Q s x ho base base2 v v2 P R hs hx h1 h2 hB hP hR fun v' w' a b => hK _ _ (h v' w' a b)
end Tk
end Go.Proofs.YtpcdaaijlgilkaaDoor
namespace Go.Proofs.YtpcdaaijlgilkaaDoor
open Go.RowKit
namespace Tk

def joinB (P : List Bs) : Bs := Lib.join P [44, 32]
theorem joinB_nil : joinB [] = [] := rfl
theorem map_mkS : ∀ (P : List Bs), (P.map mkS).map (·.data.toList) = P
  | [] => rfl
  | x :: t => by rw [List.map_cons, List.map_cons, map_mkS t]; rfl
theorem sum_all (name : Bs) : ∀ l : List (Bs × Bs), Lib.lens (allF l name) + 2 * (allF l name).length ≤ sumF l
  | [] => by simp [allF, Lib.lens, sumF]
  | f :: t => by
    have ih := sum_all name t
    have e : allF (f :: t) name = (if isN name f then [f.2] else []) ++ allF t name := by unfold allF; cases h : isN name f <;> simp [h]
    rw [e]
    unfold sumF
    cases isN name f
    · simp; omega
    · simp [Lib.lens] at *; omega
theorem joinB_le (name : Bs) (l : List (Bs × Bs)) : (joinB (allF l name)).length ≤ sumF l := by
  have h := sum_all name l
  unfold joinB
  cases hh : allF l name with
  | nil => simp [Lib.join_nil]
  | cons x r => rw [Lib.join_length]; rw [hh] at h; simp only [List.length_cons, List.length_nil] at *; omega
/-- what List tells -/
def listF (l : List (Bs × Bs)) (name : Bs) : List Bs := (allF l name).flatMap splitL
theorem flat_len : ∀ P : List Bs, (P.flatMap splitL).length ≤ Lib.lens P + P.length
  | [] => by simp
  | x :: t => by
    have := flat_len t
    have h2 := split_len x
    simp [Lib.lens] at *; omega
theorem listF_len (name : Bs) (l : List (Bs × Bs)) : (listF l name).length ≤ sumF l := by
  have := flat_len (allF l name)
  have h := sum_all name l
  unfold listF; omega
theorem flat_piece : ∀ (P : List Bs) (p : Bs), p ∈ P.flatMap splitL → p.length ≤ Lib.lens P
  | [], p, h => by simp at h
  | x :: t, p, h => by
    rw [List.flatMap_cons, List.mem_append] at h
    rcases h with h | h
    · have := split_piece x p h; simp [Lib.lens] at *; omega
    · have := flat_piece t p h; simp [Lib.lens] at *; omega
theorem listF_piece (name : Bs) (l : List (Bs × Bs)) (p : Bs) (h : p ∈ listF l name) : p.length ≤ sumF l := by
  have := flat_piece _ p h
  have h := sum_all name l
  omega
theorem all_piece (name : Bs) (l : List (Bs × Bs)) (p : Bs) (h : p ∈ allF l name) : p.length ≤ sumF l := by
  have h2 := sum_all name l
  have : ∀ (P : List Bs), p ∈ P → p.length ≤ Lib.lens P := by
    intro P
    induction P with
    | nil => intro h; simp at h
    | cons x t ih =>
      intro h
      rcases List.mem_cons.1 h with rfl | h
      · simp [Lib.lens]
      · have := ih h; simp [Lib.lens] at *; omega
  have := this _ h
  omega
theorem take_flat (P : List Bs) (i : Nat) (h : i < P.length) : (P.take (i + 1)).flatMap splitL = (P.take i).flatMap splitL ++ splitL (P.getD i []) := by
  rw [List.take_succ_eq_append_getElem h, List.flatMap_append]; simp [List.getD, h]
theorem flat_sub (P : List Bs) (i : Nat) : ((P.take i).flatMap splitL).length ≤ (P.flatMap splitL).length := by
  have e : P.flatMap splitL = (P.take i).flatMap splitL ++ (P.drop i).flatMap splitL := by rw [← List.flatMap_append, List.take_append_drop]
  rw [e, List.length_append]; omega

theorem sum_each (l : List (Bs × Bs)) (hz : sumF l ≤ 1099511627) : ∀ f ∈ l, f.1.length ≤ 1099511627776 ∧ f.2.length ≤ 1099511627776 := fun f hf => by
  have := sumF_mem l f hf; omega

set_option maxHeartbeats 4000000 in
set_option maxRecDepth 100000 in
theorem jnone_any (c : Nat) (a : Option Addr) (w : World) :
    Calls Tryd.prog 36 #[.slice a 0 c, .string ⟨#[44, 32]⟩] w fun e w' => e = .returned (.string ⟨#[]⟩) ∧ Below w.heap.size w w' := by
  go_enter Tryd.func36, Tryd.ntmps36
  go_wp2_with fail
  go_ret
  exact ⟨rfl, Below.refl _ _⟩
theorem joinP_any (v : Value) (P : List Bs) (base : Nat) (w : World) (ho : w.ownsRow base 9 1 v P.length (strs P)) (hP : P.length ≤ 1048576) (hj : (joinB P).length ≤ 1099511627776) :
    Calls Tryd.prog 36 #[v, .string ⟨#[44, 32]⟩] w fun e w' => e = .returned (.string (mkS (joinB P))) ∧ Below w.heap.size w w' := by
  rcases ho.2 with ⟨hv, hn⟩ | ⟨g, cap, cur, hv, hb, hg, hcap, -⟩
  · have hP0 : P = [] := List.eq_nil_of_length_eq_zero hn
    subst hP0
    rw [hv]
    exact jnone_any 0 none w
  · have hcells : ∀ (j : Nat) (x : ByteArray), (P.map mkS)[j]? = some x → w.cell? ⟨g, 0 + j, none⟩ = some (.string x) := by
      intro j x hx
      rw [List.getElem?_map] at hx
      obtain ⟨t, ht, rfl⟩ := Option.map_eq_some_iff.1 hx
      obtain ⟨a, c, e, hc⟩ := isStrs_own ho
      rw [hv] at e
      injection e with e1 _ _
      obtain ⟨b, o, e3, hc⟩ := hc j t ht
      rw [← e1] at e3
      injection e3 with e3
      injection e3 with e4 e5
      subst e4 e5
      exact hc
    have hlt := (ho.lt g (by rw [hv]; rfl)).2
    have h := Tryd.strings_Join g 0 cap (P.map mkS) ⟨#[44, 32]⟩ w hcells hlt (by rw [List.length_map]; omega) (by rw [List.length_map]; exact hcap) (by rw [map_mkS]; exact Nat.le_trans hj (by omega))
    rw [map_mkS, List.length_map] at h
    rw [hv]
    exact h

set_option maxHeartbeats 4000000 in
set_option maxRecDepth 100000 in
theorem fget_any (v : Value) (l : List (Bs × Bs)) (name : Bs) (w : World) (hs : IsFlds w v l) (hz : sumF l ≤ 1099511627) (hn : name.length ≤ 1099511627776) (hl : l.length ≤ 1048576) :
    Calls Tryd.prog 10 #[v, .string (mkS name)] w fun e w' => e = .returned (.tuple #[.string (mkS (joinB (allF l name))), .bool (decide (0 < (allF l name).length))]) ∧ Below w.heap.size w w' := by
  have HA := Lib.hid (fall_any v l name w hs (sum_each l hz) hn hl)
  unfold ListPost at HA
  obtain ⟨a, cap, rfl⟩ : ∃ a cap, v = .slice a l.length cap := by obtain ⟨a, c, h, -⟩ := hs; exact ⟨a, c, h⟩
  have hjl := joinB_le name l
  have hal := allF_len l name
  have hj : (joinB (allF l name)).length ≤ 1099511627776 := by omega
  have hP : (allF l name).length ≤ 1048576 := by omega
  clear hs hz hjl hal
  generalize allF l name = P at *
  go_enter Tryd.func10, Tryd.ntmps10
  go_wp2_with fail
  refine HA.out.mono ?_
  rintro e w1 ⟨v1, rfl, ho, hb⟩
  have HB := Lib.hid hb
  have HJ := Lib.hid (joinP_any v1 P _ w1 ho hP hj)
  obtain ⟨a1, c1, rfl⟩ : ∃ a c, v1 = .slice a P.length c := by obtain ⟨a, c, h, -⟩ := isStrs_own ho; exact ⟨a, c, h⟩
  clear ho hb hj
  by_cases hp : 0 < P.length
  all_goals
    go_wp2_with fail
    refine HJ.out.mono ?_
    rintro e w2 ⟨rfl, hb⟩
    have HB2 := Lib.hid (HB.out.trans (hb.mono HB.out.size))
    clear hb
    go_wp2_with fail
    go_ret2
    exact ⟨by first | (rw [decide_eq_true hp]; done) | (rw [decide_eq_false hp]; done) | (simp [hp]; done) | rfl, HB2.out⟩

end Tk
end Go.Proofs.YtpcdaaijlgilkaaDoor
namespace Go.Proofs.YtpcdaaijlgilkaaDoor
namespace Tk

def onceGo : List Bs → List Bs → List Bs
  | _, [] => []
  | seen, x :: t => if x ∈ seen then onceGo seen t else x :: onceGo (x :: seen) t
def lowN (l : List (Bs × Bs)) : List Bs := l.map fun f => lowL f.1
/-- the names of fields in small letters, each once -/
def namesL (l : List (Bs × Bs)) : List Bs := onceGo [] (lowN l)

theorem once_congr : ∀ (L s1 s2 : List Bs), (∀ x, x ∈ s1 ↔ x ∈ s2) → onceGo s1 L = onceGo s2 L
  | [], _, _, _ => rfl
  | x :: t, s1, s2, h => by
    rw [onceGo, onceGo]
    by_cases hx : x ∈ s1
    · rw [if_pos hx, if_pos ((h x).1 hx), once_congr t s1 s2 h]
    · rw [if_neg hx, if_neg (fun e => hx ((h x).2 e)), once_congr t (x :: s1) (x :: s2) fun y => by simp [h y]]
theorem once_snoc : ∀ (L s : List Bs) (x : Bs), onceGo s (L ++ [x]) = onceGo s L ++ (if x ∈ s ∨ x ∈ L then [] else [x])
  | [], s, x => by
    rw [List.nil_append, onceGo]
    by_cases h : x ∈ s
    · simp [h, onceGo]
    · simp [h, onceGo]
  | y :: t, s, x => by
    rw [List.cons_append, onceGo, onceGo]
    by_cases hy : y ∈ s
    · rw [if_pos hy, if_pos hy, once_snoc t s x]
      congr 1
      by_cases hx : x ∈ s
      · rw [if_pos (.inl hx), if_pos (.inl hx)]
      · by_cases hxt : x ∈ t
        · rw [if_pos (.inr hxt), if_pos (.inr (by simp [hxt]))]
        · rw [if_neg (by simp [hx, hxt]), if_neg]
          simp only [List.mem_cons, not_or]
          exact ⟨hx, fun e => hx (e ▸ hy), hxt⟩
    · rw [if_neg hy, if_neg hy, once_snoc t (y :: s) x, List.cons_append]
      congr 2
      by_cases h : x ∈ s ∨ x = y ∨ x ∈ t
      · rw [if_pos (by simp only [List.mem_cons]; rcases h with h | h | h <;> simp [h]), if_pos (by simp only [List.mem_cons]; rcases h with h | h | h <;> simp [h])]
      · rw [if_neg, if_neg]
        · simp only [List.mem_cons]; exact h
        · simp only [List.mem_cons]
          intro h2
          rcases h2 with (h2 | h2) | h2
          · exact h (.inr (.inl h2))
          · exact h (.inl h2)
          · exact h (.inr (.inr h2))
theorem once_mem : ∀ (L s : List Bs) (x : Bs), x ∈ onceGo s L ↔ x ∈ L ∧ x ∉ s
  | [], s, x => by simp [onceGo]
  | y :: t, s, x => by
    rw [onceGo]
    by_cases hy : y ∈ s
    · rw [if_pos hy, once_mem t s x]
      constructor
      · rintro ⟨h1, h2⟩; exact ⟨by simp [h1], h2⟩
      · rintro ⟨h1, h2⟩
        rcases List.mem_cons.1 h1 with rfl | h1
        · exact absurd hy h2
        · exact ⟨h1, h2⟩
    · rw [if_neg hy, List.mem_cons, once_mem t (y :: s) x]
      constructor
      · rintro (rfl | ⟨h1, h2⟩)
        · exact ⟨by simp, hy⟩
        · exact ⟨by simp [h1], fun e => h2 (by simp [e])⟩
      · rintro ⟨h1, h2⟩
        by_cases e : x = y
        · exact .inl e
        · rcases List.mem_cons.1 h1 with rfl | h1
          · exact absurd rfl e
          · exact .inr ⟨h1, by simp [e, h2]⟩
theorem once_nodup : ∀ (L s : List Bs), (onceGo s L).Nodup
  | [], s => List.nodup_nil
  | y :: t, s => by
    rw [onceGo]
    split
    · exact once_nodup t s
    · rw [List.nodup_cons]
      exact ⟨fun h => ((once_mem t (y :: s) y).1 h).2 (by simp), once_nodup t (y :: s)⟩
theorem count_ne (x y : Bs) (t : List Bs) (h : x ≠ y) : (y :: t).count x = t.count x := List.count_cons_of_ne (fun e => h e.symm)
theorem once_sum : ∀ (L s : List Bs), ((onceGo s L).map fun x => L.count x).sum = (L.filter fun x => decide (x ∉ s)).length
  | [], s => rfl
  | y :: t, s => by
    rw [onceGo]
    by_cases hy : y ∈ s
    · rw [if_pos hy, List.filter_cons_of_neg (by simp [hy]), ← once_sum t s]
      congr 1
      refine List.map_congr_left fun x hx => count_ne x y t ?_
      rintro rfl
      exact ((once_mem t s x).1 hx).2 hy
    · rw [if_neg hy, List.filter_cons_of_pos (by simp [hy]), List.map_cons, List.sum_cons, List.length_cons, List.count_cons_self]
      have e : ((onceGo (y :: s) t).map fun x => (y :: t).count x) = (onceGo (y :: s) t).map fun x => t.count x := by
        refine List.map_congr_left fun x hx => count_ne x y t ?_
        rintro rfl
        exact ((once_mem t (x :: s) x).1 hx).2 (by simp)
      rw [e, once_sum t (y :: s)]
      have key : ∀ u : List Bs, (u.filter fun x => decide (x ∉ s)).length = u.count y + (u.filter fun x => decide (x ∉ y :: s)).length := by
        intro u
        induction u with
        | nil => rfl
        | cons a u ih =>
          by_cases ha : a = y
          · subst ha
            rw [List.filter_cons_of_pos (by simp [hy]), List.filter_cons_of_neg (by simp), List.count_cons_self, List.length_cons, ih]; omega
          · rw [count_ne y a u (fun e => ha e.symm)]
            by_cases has : a ∈ s
            · rw [List.filter_cons_of_neg (by simp [has]), List.filter_cons_of_neg (by simp [has]), ih]
            · rw [List.filter_cons_of_pos (by simp [has]), List.filter_cons_of_pos (by simp [has, ha]), List.length_cons, List.length_cons, ih]; omega
      rw [key t]; omega

theorem all_count (l : List (Bs × Bs)) (x : Bs) (hx : lowL x = x) : (allF l x).length = (lowN l).count x := by
  unfold allF lowN
  rw [List.length_map]
  induction l with
  | nil => rfl
  | cons f t ih =>
    rw [List.map_cons]
    by_cases h : lowL f.1 = x
    · rw [List.filter_cons_of_pos (by unfold isN; simp [h, hx]), List.length_cons, ih, h, List.count_cons_self]
    · rw [List.filter_cons_of_neg (by unfold isN; simp [h, hx]), ih, count_ne x _ _ (fun e => h e.symm)]
theorem names_low (l : List (Bs × Bs)) (x : Bs) (h : x ∈ namesL l) : lowL x = x := by
  have := ((once_mem _ _ _).1 h).1
  unfold lowN at this
  rw [List.mem_map] at this
  obtain ⟨f, -, rfl⟩ := this
  exact lowL_lowL _
theorem names_all (l : List (Bs × Bs)) (x : Bs) (h : x ∈ namesL l) : 0 < (allF l x).length := by
  rw [all_count l x (names_low l x h), List.count_pos_iff]
  exact ((once_mem _ _ _).1 h).1
theorem names_nodup (l : List (Bs × Bs)) : (namesL l).Nodup := once_nodup _ _
theorem names_sum (l : List (Bs × Bs)) : ((namesL l).map fun x => (allF l x).length).sum = l.length := by
  have h := once_sum (lowN l) []
  have e : ((namesL l).map fun x => (allF l x).length) = (onceGo [] (lowN l)).map fun x => (lowN l).count x := List.map_congr_left fun x hx => all_count l x (names_low l x hx)
  rw [e, h, List.filter_eq_self.2 (fun _ _ => by simp)]
  unfold lowN; simp
theorem names_snoc (l : List (Bs × Bs)) (f : Bs × Bs) : namesL (l ++ [f]) = namesL l ++ (if lowL f.1 ∈ lowN l then [] else [lowL f.1]) := by
  unfold namesL
  have e : lowN (l ++ [f]) = lowN l ++ [lowL f.1] := by unfold lowN; simp
  rw [e, once_snoc]; simp
theorem once_len : ∀ (L s : List Bs), (onceGo s L).length ≤ L.length
  | [], _ => Nat.le_refl _
  | y :: t, s => by
    rw [onceGo]
    split
    · exact Nat.le_succ_of_le (once_len t s)
    · exact Nat.succ_le_succ (once_len t _)
theorem names_len (l : List (Bs × Bs)) : (namesL l).length ≤ l.length := by
  have := once_len (lowN l) []
  unfold lowN at this
  rw [List.length_map] at this
  exact this
end Tk
end Go.Proofs.YtpcdaaijlgilkaaDoor
namespace Go.Proofs.YtpcdaaijlgilkaaDoor
open Go.RowKit
namespace Tk

theorem keepN {w w' : World} {B : Nat} {v : Value} {n : Nat} {xs : List Value} {e : TypeId} {k : Nat} (h : w.ownsRow B e k v n xs) (hb : Below w.heap.size w w') : w'.ownsRow B e k v n xs :=
  World.ownsRow.kept h (row := none) ⟨hb.os, hb.tape, hb.output, hb.size, fun k hk _ => hb.block k hk⟩ (by cases h : v.ownBlock <;> simp)
theorem notin_snoc (p q : Bs) (L : List Bs) : decide (p ∉ L ++ [q]) = (decide (p ∉ L) && !decide (q = p)) := by
  by_cases h1 : p ∈ L
  · simp [h1]
  · by_cases h2 : q = p
    · subst h2; simp [h1]
    · have h3 : p ≠ q := fun e => h2 e.symm
      simp [h1, h2, h3]
theorem lowN_snoc (l : List (Bs × Bs)) (f : Bs × Bs) : lowN (l ++ [f]) = lowN l ++ [lowL f.1] := by unfold lowN; simp

set_option maxHeartbeats 8000000 in
set_option maxRecDepth 100000 in
theorem rnames_any (v : Value) (l : List (Bs × Bs)) (w : World) (hs : IsFlds w v l) (hz : ∀ f ∈ l, f.1.length ≤ 1099511627776 ∧ f.2.length ≤ 1099511627776) (hl : l.length ≤ 1048576) :
    Calls Tryd.prog 14 #[v] w (ListPost w.heap.size (namesL l) w) := by
  have HS := Lib.hid hs
  have HZ := Lib.hid hz
  obtain ⟨i0, hi0, hz0, hz1, hz2⟩ := info_parts strInfo
  unfold ListPost
  obtain ⟨a, cap, rfl⟩ : ∃ a cap, v = .slice a l.length cap := by obtain ⟨a, c, h, -⟩ := hs; exact ⟨a, c, h⟩
  clear hs hz
  go_enter Tryd.func14, Tryd.ntmps14
  go_wp2_with fail
  go_loopw [3, 4] (fun v3 vi wr => ∃ i : Nat, i ≤ l.length ∧ vi = .int .i64 i ∧ Hid (wr.ownsRow w.heap.size 9 1 v3 (namesL (l.take i)).length (strs (namesL (l.take i)))) ∧ Hid (Below w.heap.size w wr)) (fun _ vi _ => l.length - (RowKit.intOf vi).toNat)
  case atStart => exact ⟨0, Nat.zero_le _, rfl, World.ownsRow_nil _ _ _ _, Below.refl _ _⟩
  case round =>
    obtain ⟨i, hi, rfl, HO, HB⟩ := hrel
    rename World => W
    by_cases hlt : i < l.length
    · obtain ⟨a', c', e', hcap, hc⟩ := isFlds_below HS.out HB.out
      injection e' with e1 _ e2
      subst e1 e2
      obtain ⟨b, o, rfl, hc0, -⟩ := hc i (l.getD i ([], [])) (by simp [List.getD, hlt])
      have HCell := Lib.hid (fun (k : Nat) (hk : k < l.length) => show W.cell? ⟨b, o + k * 2, none⟩ = some (.string (mkS (l.getD k ([], [])).1)) from by
        obtain ⟨b', o', e3, h1, -⟩ := hc k (l.getD k ([], [])) (by simp [List.getD, hk])
        cases e3
        exact h1)
      have HM := Lib.hid (fun (k : Nat) (hk : k < l.length) => (HZ.out (l.getD k ([], [])) (by simp [List.getD, hk])).1)
      have htk : l.take (i + 1) = l.take i ++ [l.getD i ([], [])] := by
        rw [List.take_succ_eq_append_getElem hlt]; simp [List.getD, hlt]
      have hnx := names_snoc (l.take i) (l.getD i ([], []))
      rw [← htk] at hnx
      have HNX := Lib.hid hnx
      have hal := names_len (l.take i)
      have htl : (l.take i).length ≤ i := by simp; omega
      have hal2 : (namesL (l.take i)).length ≤ 1048576 := by omega
      have hm := HM.out i hlt
      obtain ⟨x, hx⟩ : ∃ x, x = (l.getD i ([], [])).1 := ⟨_, rfl⟩
      rw [← hx] at hc0 hnx hm
      rw [← hx] at HNX
      have hxz := size_mkS x
      have g0 : (0 : Int) ≤ (i : Int) := by omega
      have g1 : (i : Int) < (l.length : Int) := by omega
      have HLw := Lib.hid (fun W : World => show Calls Tryd.prog 40 #[.string (mkS x)] W (fun e w' => e = .returned (.string (mkS (lowL x))) ∧ Below W.heap.size W w') from refLower_any (mkS x) W (by omega))
      have HLt := Lib.hid hlt
      have hilen : l.length ≤ 1048576 := hl
      clear hc htk hnx hal htl hx hi
      generalize namesL (l.take i) = P at *
      go_wp2_with fail
      go_loopw [5, 6] (fun v5 v6 wr => ∃ k : Nat, k ≤ i ∧ v5 = .bool (decide (lowL x ∉ lowN (l.take k))) ∧ v6 = .int .i64 k ∧ Hid (Below W.heap.size W wr)) (fun _ v6 _ => i - (RowKit.intOf v6).toNat)
      case atStart => exact ⟨0, Nat.zero_le _, by simp [lowN], rfl, Lib.hid (Below.refl _ _)⟩
      case round =>
        obtain ⟨k, hk, rfl, rfl, HBk⟩ := hrel
        rename World => W2
        by_cases hki : k < i
        · have hkl : k < l.length := by have := HLt.out; omega
          have hck := (HBk.out.cell (cell_lt (HCell.out k hkl))).trans (HCell.out k hkl)
          have hci : W2.cell? ⟨b, o + i * 2, none⟩ = some (.string (mkS x)) := (HBk.out.cell (cell_lt hc0)).trans hc0
          have htk : l.take (k + 1) = l.take k ++ [l.getD k ([], [])] := by
            rw [List.take_succ_eq_append_getElem hkl]; simp [List.getD, hkl]
          have hlow := lowN_snoc (l.take k) (l.getD k ([], []))
          rw [← htk] at hlow
          have hmk := HM.out k hkl
          obtain ⟨y, hy⟩ : ∃ y, y = (l.getD k ([], [])).1 := ⟨_, rfl⟩
          rw [← hy] at hck hlow hmk
          have hyz := size_mkS y
          have hnext : decide (lowL x ∉ lowN (l.take (k + 1))) = (decide (lowL x ∉ lowN (l.take k)) && !decide (lowL y = lowL x)) := by
            rw [hlow]
            exact notin_snoc _ _ _
          have HNext := Lib.hid hnext
          have q0 : (0 : Int) ≤ (k : Int) := by omega
          have q1 : (k : Int) < (l.length : Int) := by omega
          have q2 : (k : Int) < (i : Int) := by omega
          have HKi := Lib.hid hki
          have hib : (i : Int) ≤ 1048576 := by omega
          clear htk hlow hy hnext hk hki
          generalize decide (lowL x ∉ lowN (l.take k)) = d at *
          cases d
          · clear hck hci hmk hyz
            go_wp2_with fail
            go_quiet (fail)
            go_wp2_with fail
            exact ⟨⟨k + 1, by have := HKi.out; omega, by rw [HNext.out]; rfl, by go_num, Lib.hid (HBk.out.trans ⟨rfl, rfl, rfl, Nat.le_refl _, fun _ _ => rfl⟩)⟩, by have := HKi.out; simp [RowKit.intOf]; omega⟩
          · have HSm : Hid (Calls Tryd.prog 39 #[.string (mkS y), .string (mkS x)] W2.drew fun e w' => e = .returned (.bool (decide (lowL y = lowL x))) ∧ Below W2.drew.heap.size W2.drew w' ∧ w'.cell? ⟨b, o + k * 2, none⟩ = some (.string (mkS y)) ∧ w'.cell? ⟨b, o + i * 2, none⟩ = some (.string (mkS x))) := by
              have h := rsm_any (mkS y) (mkS x) W2.drew (by omega) (by omega)
              rw [bs_mkS, bs_mkS] at h
              refine Lib.hid (h.mono ?_)
              rintro e w' ⟨rfl, hb⟩
              have hck2 : W2.drew.cell? ⟨b, o + k * 2, none⟩ = some (.string (mkS y)) := hck
              have hci2 : W2.drew.cell? ⟨b, o + i * 2, none⟩ = some (.string (mkS x)) := hci
              exact ⟨rfl, hb, (hb.cell (cell_lt hck2)).trans hck2, (hb.cell (cell_lt hci2)).trans hci2⟩
            have hck2 : W2.drew.cell? ⟨b, o + k * 2, none⟩ = some (.string (mkS y)) := hck
            have hci2 : W2.drew.cell? ⟨b, o + i * 2, none⟩ = some (.string (mkS x)) := hci
            clear hmk hyz hxz
            generalize hdd : decide (lowL y = lowL x) = dd at *
            go_wp2_with fail
            go_region_held3 (fun w' => w'.cell? ⟨b, o + k * 2, none⟩ = some (.string (mkS y)) ∧ w'.cell? ⟨b, o + i * 2, none⟩ = some (.string (mkS x))) (first | (refine ⟨?_, ?_⟩ <;> assumption)) ((go_at_call 39; refine HSm.out.mono ?_; rintro e w5 ⟨rfl, hb5, t1, t2⟩))
            all_goals
              have HB5 := Lib.hid (HBk.out.trans ((show Below W2.heap.size W2 W2.drew from ⟨rfl, rfl, rfl, Nat.le_refl _, fun _ _ => rfl⟩).trans hb5 |>.mono HBk.out.size))
              go_wp2_with fail
              exact ⟨⟨k + 1, by have := HKi.out; omega, by rw [HNext.out]; first | rfl | (cases dd <;> rfl), by go_num, HB5⟩, by have := HKi.out; simp [RowKit.intOf]; omega⟩
        · have hkk : k = i := by omega
          subst hkk
          have hxn : W2.cell? ⟨b, o + k * 2, none⟩ = some (.string (mkS x)) := (HBk.out.cell (cell_lt hc0)).trans hc0
          have HO2 := Lib.hid (keepN HO.out HBk.out)
          have HB2 := Lib.hid (HB.out.trans (HBk.out.mono HB.out.size))
          have hik : ¬ (k : Int) < (k : Int) := by omega
          have hib : (k : Int) ≤ 1048576 := by omega
          clear hk hki
          by_cases hin : lowL x ∈ lowN (l.take k)
          · have hd : decide (lowL x ∉ lowN (l.take k)) = false := by simp [hin]
            have hn1 := HNX.out
            rw [if_pos hin, List.append_nil] at hn1
            have HN1 := Lib.hid hn1
            rw [hd]
            clear hn1 hd hin
            go_wp2_with fail
            refine ⟨⟨k + 1, HLt.out, by go_num, ?_, HB2⟩, by have := HLt.out; simp [RowKit.intOf]; omega⟩
            show World.ownsRow _ _ _ _ _ _ _
            rw [HN1.out]
            exact HO2.out
          · have hd : decide (lowL x ∉ lowN (l.take k)) = true := by simp [hin]
            have hn1 := HNX.out
            rw [if_neg hin] at hn1
            have HN1 := Lib.hid hn1
            rw [hd]
            clear hn1 hd hin
            go_wp2_with fail
            refine (HLw.out _).mono ?_
            rintro e w6 ⟨rfl, hb⟩
            have HO6 := Lib.hid (keepN HO2.out hb)
            have HB6 := Lib.hid (HB2.out.trans (hb.mono HB2.out.size))
            have hs6 : w.heap.size ≤ w6.heap.size := HB6.out.size
            clear hb
            go_wp2_with (at_builtin; refine wpList_append_own _ rfl _ _ 34 rfl w.heap.size 9 i0 (.string .empty) 1 16 Tryd.underlying34 hi0 hz0 hz1 hz2 rfl (by decide) _ _ _ rfl (HO6.out.alloc _) ⟨w6.heap.size, 0, none⟩ 1 1 [.string (mkS (lowL x))] rfl rfl ?c1 ?c2 ?c3 ?c4 ?c5 ?_)
            case c1 => exact cell_one_new _ _ _
            case c2 => simp [Value.oneCell']
            case c3 => unfold maxLen; omega
            case c4 => omega
            case c5 => simp; omega
            intro v' w7 ho hg _
            have HB7 := Lib.hid (HB6.out.trans (((Below.refl w6.heap.size w6).alloc (Nat.le_refl _) (.cells #[.string (mkS (lowL x))] 9)).mono hs6))
            have HB8 := Lib.hid (HB7.out.trans (below_of_grown hg (HO6.out.alloc _) HB7.out.size))
            have HO8 : Hid (w7.ownsRow w.heap.size 9 1 v' (namesL (l.take (k + 1))).length (strs (namesL (l.take (k + 1))))) := by
              show World.ownsRow _ _ _ _ _ _ _
              rw [HN1.out, List.length_append, strs_append]
              exact ho
            clear ho hg
            go_wp2_with fail
            exact ⟨⟨k + 1, HLt.out, by go_num, HO8, HB8⟩, by have := HLt.out; simp [RowKit.intOf]; omega⟩
    · have hil : l.take i = l := List.take_of_length_le (by omega)
      rw [hil] at HO
      go_wp2_with fail
      go_ret
      exact ⟨_, rfl, HO.out, HB.out⟩
end Tk
end Go.Proofs.YtpcdaaijlgilkaaDoor
namespace Go.Proofs.YtpcdaaijlgilkaaDoor
open Go.RowKit
namespace Tk

theorem two58 : (ByteArray.mk #[58, 32]).size = 2 := rfl
theorem two13 : (ByteArray.mk #[13, 10]).size = 2 := rfl

theorem step_str {ops : Array Oper} {w w0 : World} {o : Oper} {a : Act} {K : Act → World → Prop} {Q : Exit → Act → World → Prop} {E : Prop} (hgd : o.guard = none) (s x : Operand)
    (ho : o.op = .call { callee := .builtin .append, args := #[s, x], argTypes := #[51, 9] })
    (base : Nat) (v : Value) (P : Bs) (t : ByteArray) (hs : a.eval s = v) (hx : a.eval x = .string t) (h1 : w.ownsRow base 5 1 v P.length (Lib.byteCells P))
    (hB : base ≤ w.heap.size) (hP : P.length + t.size ≤ 1048576) (p q : Addr) (u1 u2 : Value) (hcell : ∀ W, Below base w0 W → W.cell? p = some u1 ∧ W.cell? q = some u2) (hb : Below base w0 w)
    (h : ∀ v' w', w'.ownsRow base 5 1 v' (P ++ bs t).length (Lib.byteCells (P ++ bs t)) → Below base w0 w' → w'.cell? p = some u1 → w'.cell? q = some u2 → base ≤ w'.heap.size → K (a.put o.dst v') w') :
    if Region.wanted o (yielded ops a.tmps) = true then Oper.wp Tryd.prog o a w K Q else E := by
  have hw : Region.wanted o (yielded ops a.tmps) = true := by simp [Region.wanted, hgd]
  rw [if_pos hw]
  obtain ⟨i0, hi, hz0, hz1, hz2⟩ := info_parts byteInf
  obtain ⟨v', w', hr, h2, h3, -⟩ := Lib.run_append_own_string (P := Tryd.prog) w base 51 9 o.type 5 i0 Tryd.underlying51 Tryd.underlying9 hi hz0 hz1 hz2 v P.length (Lib.byteCells P) h1 t (by unfold maxLen; omega) (by omega) hB
  have hb2 := hb.grown h3 hB (fun k hk => (h1.lt k hk).1)
  have hc := hcell _ hb2
  have hsz : w.heap.size ≤ w'.heap.size := h3.size
  unfold Oper.wp execOp
  simp only [ho, resolve, invoke, builtin, Sem.run_bind, Sem.run_pure, Result.andThen_ok, List.map_toArray, List.map_cons, List.map_nil, hs, hx, hr]
  refine h v' w' ?_ hb2 hc.1 hc.2 (Nat.le_trans hB hsz)
  rw [List.length_append, length_bs, cells_str]
  exact h2

theorem conv_bytes {w : World} {B : Nat} {v : Value} {P : Bs} (h : w.ownsRow B 5 1 v P.length (Lib.byteCells P)) : ∃ a c, v = .slice a P.length c ∧ (convert 51 9 (.slice a P.length c)).run Tryd.prog w = .ok (.string (mkS P)) w := by
  rcases h.2 with ⟨hv, hn⟩ | ⟨g, cap, cur, hv, _⟩
  · have hP : P = [] := List.eq_nil_of_length_eq_zero hn
    subst hP
    exact ⟨none, 0, hv, run_convert_bytes_nil w 51 5 Tryd.underlying51 Tryd.underlying5 0 0 9 Tryd.underlying9⟩
  · refine ⟨some ⟨g, 0, none⟩, cap, hv, ?_⟩
    exact run_convert_bytes_back (P := Tryd.prog) w 51 9 5 ⟨g, 0, none⟩ cap P Tryd.underlying51 Tryd.underlying5 Tryd.underlying9 (fun j hj => h.cells (g := g) (by rw [hv]; rfl) j _ (by simp [Lib.byteCells, hj]))

set_option maxHeartbeats 8000000 in
set_option maxRecDepth 100000 in
theorem rbytes_any (v : Value) (l : List (Bs × Bs)) (w : World) (hs : IsFlds w v l) (hz : sumF l ≤ 100000) (hl : l.length ≤ 100000) :
    Calls Tryd.prog 9 #[v] w (BytesPost l w) := by
  have HS := Lib.hid hs
  obtain ⟨a, cap, rfl⟩ : ∃ a cap, v = .slice a l.length cap := by obtain ⟨a, c, h, -⟩ := hs; exact ⟨a, c, h⟩
  have HMem := Lib.hid (sumF_mem l)
  have HZ := Lib.hid hz
  clear hs hz
  go_enter Tryd.func9, Tryd.ntmps9
  go_wp2_with fail
  go_loopw [4, 5] (fun v4 vi wr => ∃ i : Nat, i ≤ l.length ∧ vi = .int .i64 i ∧ Hid (okFs (l.take i) = true) ∧ Hid (wr.ownsRow w.heap.size 5 1 v4 (linesF (l.take i)).length (Lib.byteCells (linesF (l.take i)))) ∧ Hid (Below w.heap.size w wr)) (fun _ vi _ => l.length - (RowKit.intOf vi).toNat)
  case atStart => exact ⟨0, Nat.zero_le _, rfl, rfl, World.ownsRow_nil _ _ _ _, Below.refl _ _⟩
  case round =>
    obtain ⟨i, hi, rfl, hok, HO, HB⟩ := hrel
    rename World => W
    have hpl := lines_len (l.take i)
    have hpt := sumF_take l i
    by_cases hlt : i < l.length
    · obtain ⟨a', c', e', hcap, hc⟩ := isFlds_below HS.out HB.out
      injection e' with e1 _ e2
      subst e1 e2
      obtain ⟨b, o, rfl, hc0, hc1⟩ := hc i (l.getD i ([], [])) (by simp [List.getD, hlt])
      have hmm : l.getD i ([], []) ∈ l := by simp [List.getD, hlt]
      have hm := HMem.out _ hmm
      have htk : l.take (i + 1) = l.take i ++ [l.getD i ([], [])] := by
        rw [List.take_succ_eq_append_getElem hlt]; simp [List.getD, hlt]
      have HTK := Lib.hid htk
      have HMM := Lib.hid hmm
      clear hc htk hmm
      generalize l.getD i ([], []) = f at *
      obtain ⟨n, x⟩ := f
      have hnz := size_mkS n
      have hxz := size_mkS x
      simp only at hm hc0 hc1
      have hmz : n.length + x.length ≤ 100000 := by have := HZ.out; omega
      have HC := fun W : World => rcheck_any (mkS n) (mkS x) W (by omega) (by omega)
      rw [bs_mkS, bs_mkS] at HC
      have g0 : (0 : Int) ≤ (i : Int) := by omega
      have g1 : (i : Int) < (l.length : Int) := by omega
      have hlb : b < W.heap.size := cell_lt (p := ⟨b, o + i * 2, none⟩) hc0
      have HLen := Lib.hid (show (linesF (l.take i)).length ≤ 100000 ∧ n.length + x.length ≤ 100000 from ⟨by rw [hpl]; have := HZ.out; omega, hmz⟩)
      clear hnz hxz hm hmz hpl hpt
      cases hk : okF n x
      · rw [okE_no _ _ hk] at HC
        have hno := okFs_take_no l (n, x) HMM.out hk
        have e1 : byN l = [] := by unfold byN; rw [hno]; rfl
        have e2 : byE l = 4 := by unfold byE; rw [hno]; rfl
        have E1 := Lib.hid e1
        have E2 := Lib.hid e2
        have HC2 := Lib.hid HC
        clear HC hk hno e1 e2
        go_wp2_with fail
        refine (HC2.out _).mono ?_
        rintro e w5 ⟨rfl, hb⟩
        have HB5 := Lib.hid (HB.out.trans (hb.mono HB.out.size))
        clear hb
        go_wp2_with fail
        go_ret2
        exact ⟨by rw [E1.out, E2.out]; rfl, HB5.out⟩
      · rw [okE_ok _ _ hk] at HC
        have hok2 := okFs_snoc _ (n, x) hok.out hk
        rw [← HTK.out] at hok2
        have hln := lines_snoc (l.take i) (n, x)
        rw [← HTK.out] at hln
        simp only at hln
        have HLN := Lib.hid hln
        have HOK := Lib.hid hok2
        have HC2 := Lib.hid HC
        clear HC hk hok2 hln
        generalize linesF (l.take i) = P at *
        go_wp2_with fail
        refine (HC2.out _).mono ?_
        rintro e w5 ⟨rfl, hb⟩
        have hO5 := own_keep HO.out hb
        have hB5 := HB.out.trans (hb.mono HB.out.size)
        have hc5 := (hb.cell (p := ⟨b, o + i * 2, none⟩) hlb).trans hc0
        have hd5 := (hb.cell (p := ⟨b, o + i * 2 + 1, none⟩) hlb).trans hc1
        have hB5d : Below w.heap.size w w5.drew := hB5.drew
        have hO5d : w5.drew.ownsRow w.heap.size 5 1 u4 P.length (Lib.byteCells P) := own_keep hO5 (Below.refl _ _).drew
        have hc5d : w5.drew.cell? ⟨b, o + i * 2, none⟩ = some (.string (mkS n)) := hc5
        have hd5d : w5.drew.cell? ⟨b, o + i * 2 + 1, none⟩ = some (.string (mkS x)) := hd5
        have hs5d : w.heap.size ≤ w5.drew.heap.size := hB5d.size
        have hbw : b < w.heap.size := by
          obtain ⟨a2, c2, e2, -, hc2⟩ := HS.out
          injection e2 with e3 _ e4
          obtain ⟨b3, o3, e5, h0, -⟩ := hc2 i (n, x) (by
            have := congrArg (fun q => q[i]?) HTK.out
            simpa [List.getElem?_append, List.getElem?_take, Nat.min_eq_left hi] using this)
          rw [← e3] at e5
          injection e5 with e6
          injection e6 with e7 e8
          subst e7
          exact cell_lt (p := ⟨b, o3 + i * 2, none⟩) h0
        have HCl : Hid (∀ W', Below w.heap.size w5 W' → W'.cell? ⟨b, o + i * 2, none⟩ = some (.string (mkS n)) ∧ W'.cell? ⟨b, o + i * 2 + 1, none⟩ = some (.string (mkS x))) := fun W' h => ⟨(h.cell (p := ⟨b, o + i * 2, none⟩) hbw).trans hc5, (h.cell (p := ⟨b, o + i * 2 + 1, none⟩) hbw).trans hd5⟩
        have hB6 : Below w.heap.size w5 w5.drew := ((Below.refl _ _).drew)
        clear hB5d
        have HB5 := Lib.hid hB5
        have HLn := HLen.out
        clear hB5 hlb hc0 hc1
        go_wp2_with fail
        go_region_held3 (fun w' => w'.cell? ⟨b, o + i * 2, none⟩ = some (.string (mkS n)) ∧ w'.cell? ⟨b, o + i * 2 + 1, none⟩ = some (.string (mkS x))) (first | (refine ⟨?_, ?_⟩ <;> assumption)) (first | (refine step_str (by rfl) _ _ (by rfl) w.heap.size _ _ _ (by rfl) (by rfl) (by assumption) (by assumption) (by simp only [List.length_append, length_bs, size_mkS, two58, two13]; omega) ⟨b, o + i * 2, none⟩ ⟨b, o + i * 2 + 1, none⟩ _ _ HCl.out (by assumption) ?_; intro v6 w6 ho6 hb6 hc6 hd6 hs6))
        all_goals
          have HB6 := Lib.hid (HB5.out.trans hb6)
          have HO6 := Lib.hid ho6
          clear ho6 hb6 hc6 hd6 hO5d hc5d hd5d hO5 hc5 hd5 hB6 HLn
          go_wp2_with fail
          refine ⟨⟨i + 1, by omega, by go_num, HOK, ?_, HB6⟩, by simp [RowKit.intOf]; omega⟩
          show World.ownsRow _ _ _ _ _ _ _
          rw [HLN.out]
          have h := HO6.out
          rw [bs_mkS, bs_mkS] at h
          exact h
    · have hil : l.take i = l := List.take_of_length_le (by omega)
      rw [hil] at hok HO
      have e1 : byN l = linesF l := by unfold byN; rw [hok.out]; rfl
      have e2 : byE l = 0 := by unfold byE; rw [hok.out]; rfl
      have E1 := Lib.hid e1
      have E2 := Lib.hid e2
      obtain ⟨ra, rc, rfl, hcv⟩ := conv_bytes HO.out
      have c3 : ¬ (i : Int) < (l.length : Int) := by omega
      clear hil e1 e2 hpl hpt
      generalize linesF l = P at *
      go_wp2_with fail
      go_ret2
      exact ⟨by rw [E1.out, E2.out]; rfl, HB.out⟩
end Tk
end Go.Proofs.YtpcdaaijlgilkaaDoor
namespace Go.Proofs.YtpcdaaijlgilkaaDoor
open Go.RowKit
namespace Tk

def spQ (q : Bool) (l : Bs) (b i : Nat) : List Bs := parts (spl (if q then 1 else 0) ((l.take i).drop b) (l.drop i))
def rest (l : Bs) (b : Nat) : List Bs := if b < l.length then addP (trimL (l.drop b)) else []
theorem spQ_start (l : Bs) : splitL l = spQ false l 0 0 := by simp [spQ, splitL]
theorem spQ_end (q : Bool) (l : Bs) (b i : Nat) (h : l.length ≤ i) : spQ q l b i = addP (trimL (l.drop b)) := by
  unfold spQ
  rw [List.take_of_length_le h, List.drop_eq_nil_of_le h]
  cases q <;> simp [spl, parts_one]
theorem spQ_esc (l : Bs) (b i : Nat) (hi : i + 1 < l.length) (hb : b ≤ i) (hc : l.getD i 0 = 92) : spQ true l b i = spQ true l b (i + 1 + 1) := by
  unfold spQ
  rw [if_pos rfl, drop_cons l i (by omega), hc, spl, if_pos rfl, drop_cons l (i + 1) hi, spl, take_snoc l (i + 1) hi, take_snoc l i (by omega), List.append_assoc, List.append_assoc, List.drop_append_of_le_length (by rw [List.length_take]; omega), hc]
theorem spQ_last (l : Bs) (b i : Nat) (hi : i + 1 = l.length) (hb : b ≤ i) (hc : l.getD i 0 = 92) : spQ true l b i = addP (trimL (l.drop b)) := by
  unfold spQ
  have e : l.drop b = (l.take i).drop b ++ [92] := by
    have h1 : l.take (i + 1) = l := List.take_of_length_le (by omega)
    rw [take_snoc l i (by omega), hc] at h1
    rw [← List.drop_append_of_le_length (by rw [List.length_take]; omega), h1]
  have e2 : l.drop (i + 1) = [] := List.drop_eq_nil_of_le (by omega)
  have e3 : ∀ c : Bs, spl 2 c [] = [c] := fun c => by simp [spl]
  rw [if_pos rfl, drop_cons l i (by omega), hc, spl, if_pos rfl, e2, e3, parts_one, e]
theorem spQ_close (l : Bs) (b i : Nat) (hi : i < l.length) (hb : b ≤ i) (hc : l.getD i 0 = 34) : spQ true l b i = spQ false l b (i + 1) := by
  unfold spQ
  rw [if_pos rfl, if_neg (by decide), drop_cons l i hi, hc, spl, if_neg (by decide), if_pos rfl, take_snoc l i hi, List.drop_append_of_le_length (by rw [List.length_take]; omega), hc]
theorem spQ_in (l : Bs) (b i : Nat) (hi : i < l.length) (hb : b ≤ i) (h1 : l.getD i 0 ≠ 92) (h2 : l.getD i 0 ≠ 34) : spQ true l b i = spQ true l b (i + 1) := by
  unfold spQ
  rw [if_pos rfl, drop_cons l i hi, spl, if_neg h1, if_neg h2, take_snoc l i hi, List.drop_append_of_le_length (by rw [List.length_take]; omega)]
theorem spQ_open (l : Bs) (b i : Nat) (hi : i < l.length) (hb : b ≤ i) (hc : l.getD i 0 = 34) : spQ false l b i = spQ true l b (i + 1) := by
  unfold spQ
  rw [if_neg (by decide), if_pos rfl, drop_cons l i hi, hc, spl, if_neg (by decide), if_pos rfl, take_snoc l i hi, List.drop_append_of_le_length (by rw [List.length_take]; omega), hc]
theorem spQ_out (l : Bs) (b i : Nat) (hi : i < l.length) (hb : b ≤ i) (h1 : l.getD i 0 ≠ 44) (h2 : l.getD i 0 ≠ 34) : spQ false l b i = spQ false l b (i + 1) := by
  unfold spQ
  rw [if_neg (by decide), drop_cons l i hi, spl, if_neg h1, if_neg h2, take_snoc l i hi, List.drop_append_of_le_length (by rw [List.length_take]; omega)]
theorem spQ_comma (l : Bs) (b i : Nat) (hi : i < l.length) (hc : l.getD i 0 = 44) : spQ false l b i = addP (trimL ((l.drop b).take (i - b))) ++ spQ false l (i + 1) (i + 1) := by
  unfold spQ
  rw [if_neg (by decide), drop_cons l i hi, hc, spl, if_pos rfl, parts_cons, List.drop_take, List.drop_take, Nat.sub_self, List.take_zero]
theorem rest_past (l : Bs) (b : Nat) (h : l.length ≤ b) : rest l b = [] := by unfold rest; rw [if_neg (by omega)]
theorem rest_left (l : Bs) (b : Nat) (h : b < l.length) : rest l b = addP (trimL (l.drop b)) := by unfold rest; rw [if_pos h]
theorem u8_eqb (c : UInt8) (n : Nat) (hn : n < 256) (h : ((c.toNat : Int) == n) = true) : c = UInt8.ofNat n := u8_is c n hn h

set_option maxHeartbeats 16000000 in
set_option maxRecDepth 100000 in
theorem rSplit_any (s : ByteArray) (w : World) (hs : s.size ≤ 1099511627776) :
    Calls Tryd.prog 43 #[.string s] w (ListPost w.heap.size (splitL (bs s)) w) := by
  obtain ⟨i0, hi0, hz0, hz1, hz2⟩ := info_parts strInfo
  have HL := Lib.hid (length_bs s)
  go_enter Tryd.func43, Tryd.ntmps43
  go_wp2_with fail
  go_loopw [3, 4, 5, 6] (fun v vb vq vi wr => ∃ (i b : Nat) (q : Bool) (P : List Bs), i ≤ s.size + 1 ∧ b ≤ s.size + 1 ∧ P.length ≤ i ∧ vi = .int .i64 i ∧ vb = .int .i64 b ∧ vq = .bool q ∧ Hid (wr.ownsRow w.heap.size 9 1 v P.length (strs P)) ∧ Hid (Below w.heap.size w wr) ∧ Hid ((b ≤ i ∧ i ≤ s.size ∧ splitL (bs s) = P ++ spQ q (bs s) b i) ∨ (i = s.size + 1 ∧ splitL (bs s) = P ++ rest (bs s) b))) (fun _ _ _ vi _ => s.size + 2 - (RowKit.intOf vi).toNat)
  case atStart => exact ⟨0, 0, false, [], by omega, by omega, by simp, rfl, rfl, rfl, World.ownsRow_nil _ _ _ _, Below.refl _ _, .inl ⟨by omega, by omega, spQ_start _⟩⟩
  case round =>
    obtain ⟨i, b, q, P, hi, hb0, hP, rfl, rfl, rfl, HO, HB, HS⟩ := hrel
    rename World => W
    rename Value => v
    by_cases hle : i ≤ s.size
    · obtain ⟨hb, -, hsp⟩ : b ≤ i ∧ i ≤ s.size ∧ splitL (bs s) = P ++ spQ q (bs s) b i := by
        rcases HS.out with h | h
        · exact h
        · omega
      have HS2 := Lib.hid hsp
      clear hsp HS
      by_cases hlt : i < s.size
      · have hgd := getD_bs s i hlt
        have HG := Lib.hid hgd
        clear hgd
        have hll : i < (bs s).length := by rw [HL.out]; exact hlt
        have HLL := Lib.hid hll
        clear hll
        cases q
        · by_cases h34 : ((s[i].toNat : Int) == 34) = true
          · have e := HG.out.trans (u8_is s[i] 34 (by omega) h34)
            have h44 : ((s[i].toNat : Int) == 44) = false := by rw [eq_of_beq h34]; rfl
            have H2 : Hid (splitL (bs s) = P ++ spQ true (bs s) b (i + 1)) := by
              show _ = _
              rw [HS2.out, spQ_open (bs s) b i HLL.out hb e]
            clear e HS2
            go_wp2_with fail
            go_roundw
            case rel => exact ⟨i + 1, b, true, P, by omega, by omega, by omega, by go_num, rfl, rfl, HO, HB, .inl ⟨by omega, by omega, H2.out⟩⟩
            case measure => simp [RowKit.intOf] <;> omega
          · have h34 : ((s[i].toNat : Int) == 34) = false := by simpa using h34
            have n34 : (bs s).getD i 0 ≠ 34 := fun h => u8_not s[i] 34 h34 (by omega) (HG.out.symm.trans h)
            by_cases h44 : ((s[i].toNat : Int) == 44) = true
            · have e := HG.out.trans (u8_is s[i] 44 (by omega) h44)
              have H2 : Hid (splitL (bs s) = P ++ (addP (trimL (bs (s.extract b i))) ++ spQ false (bs s) (i + 1) (i + 1))) := by
                show _ = _
                rw [HS2.out, spQ_comma (bs s) b i HLL.out e, bs_extract]
              have HT := Lib.hid (fun W => rTrim_any (s.extract b i) W (by rw [← length_bs, bs_extract, List.length_take]; omega))
              generalize trimL (bs (s.extract b i)) = t at *
              clear e HS2 n34
              by_cases he : t = []
              · subst he
                have hne : (mkS []).toList.isEmpty = true := by rw [toList_bs]; rfl
                have H3 : Hid (splitL (bs s) = P ++ spQ false (bs s) (i + 1) (i + 1)) := by
                  show _ = _
                  rw [H2.out]; simp [addP]
                clear H2
                go_wp2_with fail
                rw [show (min (i : Int) (s.size : Int)).toNat = i by omega]
                refine (HT.out _).mono ?_
                rintro e w' ⟨rfl, rfl⟩
                go_wp2_with fail
                go_roundw
                case rel => exact ⟨i + 1, i + 1, false, P, by omega, by omega, by first | omega | (rw [List.length_append]; simp; omega), by go_num, by go_num, rfl, HO, HB, .inl ⟨by omega, by omega, H3.out⟩⟩
                case measure => simp [RowKit.intOf] <;> omega
              · have hne : (mkS t).toList.isEmpty = false := by rw [toList_bs, bs_mkS]; simpa using he
                have H3 : Hid (splitL (bs s) = (P ++ [t]) ++ spQ false (bs s) (i + 1) (i + 1)) := by
                  show _ = _
                  rw [H2.out]; simp [addP, he]
                clear H2
                go_wp2_with fail
                rw [show (min (i : Int) (s.size : Int)).toNat = i by omega]
                refine (HT.out _).mono ?_
                rintro e w' ⟨rfl, rfl⟩
                have hown' := HO.out
                have hB' := HB.out.size
                go_wp2_with (at_builtin; refine wpList_append_own _ rfl _ _ 34 rfl w.heap.size 9 i0 (.string .empty) 1 16 Tryd.underlying34 hi0 hz0 hz1 hz2 rfl (by decide) _ _ _ rfl (hown'.alloc _) ⟨W.heap.size, 0, none⟩ 1 1 [.string (mkS t)] rfl rfl ?c1 ?c2 ?c3 ?c4 ?c5 ?_)
                case c1 => exact cell_one_new _ _ _
                case c2 => simp [Value.oneCell']
                case c3 => unfold maxLen; omega
                case c4 => omega
                case c5 => simp; omega
                intro v' w1 hown1 hg1 _
                have hb1 : Below w.heap.size w w1 := HB.out.trans (((Below.refl w.heap.size W).alloc hB' _).trans (below_of_grown hg1 (hown'.alloc _) (by simp; omega)))
                have HB1 := Lib.hid hb1
                have ho1 : w1.ownsRow w.heap.size 9 1 v' (P ++ [t]).length (strs (P ++ [t])) := by rw [List.length_append, strs_append]; exact hown1
                have HO1 := Lib.hid ho1
                clear hb1 hown1 hg1 hown' hB' ho1
                go_wp2_with fail
                go_roundw
                case rel => exact ⟨i + 1, i + 1, false, P ++ [t], by omega, by omega, by first | omega | (rw [List.length_append]; simp; omega), by go_num, by go_num, rfl, HO1, HB1, .inl ⟨by omega, by omega, H3.out⟩⟩
                case measure => simp [RowKit.intOf] <;> omega
            · have h44 : ((s[i].toNat : Int) == 44) = false := by simpa using h44
              have n44 : (bs s).getD i 0 ≠ 44 := fun h => u8_not s[i] 44 h44 (by omega) (HG.out.symm.trans h)
              have H2 : Hid (splitL (bs s) = P ++ spQ false (bs s) b (i + 1)) := by
                show _ = _
                rw [HS2.out, spQ_out (bs s) b i HLL.out hb n44 n34]
              clear n34 n44 HS2
              go_wp2_with fail
              go_roundw
              case rel => exact ⟨i + 1, b, false, P, by omega, by omega, by omega, by go_num, rfl, rfl, HO, HB, .inl ⟨by omega, by omega, H2.out⟩⟩
              case measure => simp [RowKit.intOf] <;> omega
        · by_cases h92 : ((s[i].toNat : Int) == 92) = true
          · have e := HG.out.trans (u8_is s[i] 92 (by omega) h92)
            by_cases hl : i + 1 < s.size
            · have H2 : Hid (splitL (bs s) = P ++ spQ true (bs s) b (i + 1 + 1)) := by
                show _ = _
                rw [HS2.out, spQ_esc (bs s) b i (by rw [HL.out]; exact hl) hb e]
              clear e HS2
              go_wp2_with fail
              go_roundw
              case rel => exact ⟨i + 1 + 1, b, true, P, by omega, by omega, by omega, by go_num, rfl, rfl, HO, HB, .inl ⟨by omega, by omega, H2.out⟩⟩
              case measure => simp [RowKit.intOf] <;> omega
            · have H2 : Hid (splitL (bs s) = P ++ rest (bs s) b) := by
                show _ = _
                rw [HS2.out, spQ_last (bs s) b i (by rw [HL.out]; omega) hb e, rest_left (bs s) b (by rw [HL.out]; omega)]
              clear e HS2
              go_wp2_with fail
              go_roundw
              case rel => exact ⟨i + 1 + 1, b, true, P, by omega, by omega, by omega, by go_num, rfl, rfl, HO, HB, .inr ⟨by omega, H2.out⟩⟩
              case measure => simp [RowKit.intOf] <;> omega
          · have h92 : ((s[i].toNat : Int) == 92) = false := by simpa using h92
            have n92 : (bs s).getD i 0 ≠ 92 := fun h => u8_not s[i] 92 h92 (by omega) (HG.out.symm.trans h)
            by_cases h34 : ((s[i].toNat : Int) == 34) = true
            · have e := HG.out.trans (u8_is s[i] 34 (by omega) h34)
              have h44 : ((s[i].toNat : Int) == 44) = false := by rw [eq_of_beq h34]; rfl
              have H2 : Hid (splitL (bs s) = P ++ spQ false (bs s) b (i + 1)) := by
                show _ = _
                rw [HS2.out, spQ_close (bs s) b i HLL.out hb e]
              clear e HS2 n92
              go_wp2_with fail
              go_roundw
              case rel => exact ⟨i + 1, b, false, P, by omega, by omega, by omega, by go_num, rfl, rfl, HO, HB, .inl ⟨by omega, by omega, H2.out⟩⟩
              case measure => simp [RowKit.intOf] <;> omega
            · have h34 : ((s[i].toNat : Int) == 34) = false := by simpa using h34
              have n34 : (bs s).getD i 0 ≠ 34 := fun h => u8_not s[i] 34 h34 (by omega) (HG.out.symm.trans h)
              have H2 : Hid (splitL (bs s) = P ++ spQ true (bs s) b (i + 1)) := by
                show _ = _
                rw [HS2.out, spQ_in (bs s) b i HLL.out hb n92 n34]
              clear n34 n92 HS2
              go_wp2_with fail
              go_roundw
              case rel => exact ⟨i + 1, b, true, P, by omega, by omega, by omega, by go_num, rfl, rfl, HO, HB, .inl ⟨by omega, by omega, H2.out⟩⟩
              case measure => simp [RowKit.intOf] <;> omega
      · have hie : i = s.size := by omega
        subst hie
        have H2 : Hid (splitL (bs s) = P ++ (addP (trimL (bs (s.extract b s.size))) ++ rest (bs s) (s.size + 1))) := by
          show _ = _
          rw [HS2.out, spQ_end q (bs s) b s.size (by rw [HL.out]; exact Nat.le_refl _), rest_past (bs s) (s.size + 1) (by rw [HL.out]; omega), bs_extract, List.take_of_length_le (by rw [List.length_drop, HL.out]; exact Nat.le_refl _), List.append_nil]
        have HT := Lib.hid (fun W => rTrim_any (s.extract b s.size) W (by rw [← length_bs, bs_extract, List.length_take]; omega))
        generalize trimL (bs (s.extract b s.size)) = t at *
        clear HS2
        by_cases he : t = []
        · subst he
          have hne : (mkS []).toList.isEmpty = true := by rw [toList_bs]; rfl
          have H3 : Hid (splitL (bs s) = P ++ rest (bs s) (s.size + 1)) := by
            show _ = _
            rw [H2.out]; simp [addP]
          clear H2
          go_wp2_with fail
          try rw [show (min (s.size : Int) (s.size : Int)).toNat = s.size by omega]
          refine (HT.out _).mono ?_
          rintro e w' ⟨rfl, rfl⟩
          go_wp2_with fail
          go_roundw
          case rel => exact ⟨s.size + 1, s.size + 1, q, P, by omega, by omega, by first | omega | (rw [List.length_append]; simp; omega), by go_num, by go_num, rfl, HO, HB, .inr ⟨by omega, H3.out⟩⟩
          case measure => simp [RowKit.intOf] <;> omega
        · have hne : (mkS t).toList.isEmpty = false := by rw [toList_bs, bs_mkS]; simpa using he
          have H3 : Hid (splitL (bs s) = (P ++ [t]) ++ rest (bs s) (s.size + 1)) := by
            show _ = _
            rw [H2.out]; simp [addP, he]
          clear H2
          go_wp2_with fail
          try rw [show (min (s.size : Int) (s.size : Int)).toNat = s.size by omega]
          refine (HT.out _).mono ?_
          rintro e w' ⟨rfl, rfl⟩
          have hown' := HO.out
          have hB' := HB.out.size
          go_wp2_with (at_builtin; refine wpList_append_own _ rfl _ _ 34 rfl w.heap.size 9 i0 (.string .empty) 1 16 Tryd.underlying34 hi0 hz0 hz1 hz2 rfl (by decide) _ _ _ rfl (hown'.alloc _) ⟨W.heap.size, 0, none⟩ 1 1 [.string (mkS t)] rfl rfl ?c1 ?c2 ?c3 ?c4 ?c5 ?_)
          case c1 => exact cell_one_new _ _ _
          case c2 => simp [Value.oneCell']
          case c3 => unfold maxLen; omega
          case c4 => omega
          case c5 => simp; omega
          intro v' w1 hown1 hg1 _
          have hb1 : Below w.heap.size w w1 := HB.out.trans (((Below.refl w.heap.size W).alloc hB' _).trans (below_of_grown hg1 (hown'.alloc _) (by simp; omega)))
          have HB1 := Lib.hid hb1
          have ho1 : w1.ownsRow w.heap.size 9 1 v' (P ++ [t]).length (strs (P ++ [t])) := by rw [List.length_append, strs_append]; exact hown1
          have HO1 := Lib.hid ho1
          clear hb1 hown1 hg1 hown' hB' ho1
          go_wp2_with fail
          go_roundw
          case rel => exact ⟨s.size + 1, s.size + 1, q, P ++ [t], by omega, by omega, by first | omega | (rw [List.length_append]; simp; omega), by go_num, by go_num, rfl, HO1, HB1, .inr ⟨by omega, H3.out⟩⟩
          case measure => simp [RowKit.intOf] <;> omega
    · have hie : i = s.size + 1 := by omega
      subst hie
      have hsp : splitL (bs s) = P ++ rest (bs s) b := by
        rcases HS.out with h | h
        · omega
        · exact h.2
      have HS2 := Lib.hid hsp
      clear hsp HS
      by_cases hb : b < s.size
      · have H2 : Hid (splitL (bs s) = P ++ (addP (trimL (bs (s.extract b s.size))) ++ [])) := by
          show _ = _
          rw [HS2.out, rest_left (bs s) b (by rw [HL.out]; exact hb), bs_extract, List.take_of_length_le (by rw [List.length_drop, HL.out]; exact Nat.le_refl _), List.append_nil]
        have HT := Lib.hid (fun W => rTrim_any (s.extract b s.size) W (by rw [← length_bs, bs_extract, List.length_take]; omega))
        generalize trimL (bs (s.extract b s.size)) = t at *
        clear HS2
        by_cases he : t = []
        · subst he
          have hne : (mkS []).toList.isEmpty = true := by rw [toList_bs]; rfl
          have H3 : Hid (splitL (bs s) = P) := by
            show _ = _
            rw [H2.out]; simp [addP]
          clear H2
          go_wp2_with fail
          skip
          refine (HT.out _).mono ?_
          rintro e w' ⟨rfl, rfl⟩
          go_wp2_with fail
          go_ret
          refine ⟨_, rfl, ?_, HB.out⟩
          rw [H3.out]
          exact HO.out
        · have hne : (mkS t).toList.isEmpty = false := by rw [toList_bs, bs_mkS]; simpa using he
          have H3 : Hid (splitL (bs s) = (P ++ [t])) := by
            show _ = _
            rw [H2.out]; simp [addP, he]
          clear H2
          go_wp2_with fail
          skip
          refine (HT.out _).mono ?_
          rintro e w' ⟨rfl, rfl⟩
          have hown' := HO.out
          have hB' := HB.out.size
          go_wp2_with (at_builtin; refine wpList_append_own _ rfl _ _ 34 rfl w.heap.size 9 i0 (.string .empty) 1 16 Tryd.underlying34 hi0 hz0 hz1 hz2 rfl (by decide) _ _ _ rfl (hown'.alloc _) ⟨W.heap.size, 0, none⟩ 1 1 [.string (mkS t)] rfl rfl ?c1 ?c2 ?c3 ?c4 ?c5 ?_)
          case c1 => exact cell_one_new _ _ _
          case c2 => simp [Value.oneCell']
          case c3 => unfold maxLen; omega
          case c4 => omega
          case c5 => simp; omega
          intro v' w1 hown1 hg1 _
          have hb1 : Below w.heap.size w w1 := HB.out.trans (((Below.refl w.heap.size W).alloc hB' _).trans (below_of_grown hg1 (hown'.alloc _) (by simp; omega)))
          have HB1 := Lib.hid hb1
          have ho1 : w1.ownsRow w.heap.size 9 1 v' (P ++ [t]).length (strs (P ++ [t])) := by rw [List.length_append, strs_append]; exact hown1
          have HO1 := Lib.hid ho1
          clear hb1 hown1 hg1 hown' hB' ho1
          go_wp2_with fail
          go_ret
          refine ⟨_, rfl, ?_, HB1.out⟩
          rw [H3.out]
          exact HO1.out
      · have H2 : Hid (splitL (bs s) = P) := by
          show _ = _
          rw [HS2.out, rest_past (bs s) b (by rw [HL.out]; omega), List.append_nil]
        clear HS2
        go_wp2_with fail
        go_ret
        refine ⟨_, rfl, ?_, HB.out⟩
        rw [H2.out]
        exact HO.out
end Tk
end Go.Proofs.YtpcdaaijlgilkaaDoor
namespace Go.Proofs.YtpcdaaijlgilkaaDoor
open Go.RowKit
namespace Tk

set_option maxHeartbeats 8000000 in
set_option maxRecDepth 100000 in
theorem rall_any (v : Value) (l : List (Bs × Bs)) (name : Bs) (w : World) (hs : IsFlds w v l) (hz : ∀ f ∈ l, f.1.length ≤ 1099511627776 ∧ f.2.length ≤ 1099511627776) (hn : name.length ≤ 1099511627776) (hl : l.length ≤ 1048576) :
    Calls Tryd.prog 16 #[v, .string (mkS name)] w (ListPost w.heap.size (allF l name) w) := by
  have HS := Lib.hid hs
  have HZ := Lib.hid hz
  obtain ⟨i0, hi0, hz0, hz1, hz2⟩ := info_parts strInfo
  have HNZ := Lib.hid (size_mkS name)
  obtain ⟨a, cap, rfl⟩ : ∃ a cap, v = .slice a l.length cap := by obtain ⟨a, c, h, -⟩ := hs; exact ⟨a, c, h⟩
  clear hs hz
  go_enter Tryd.func16, Tryd.ntmps16
  go_wp2_with fail
  go_loopw [5, 6] (fun v5 vi wr => ∃ i : Nat, i ≤ l.length ∧ vi = .int .i64 i ∧ Hid (wr.ownsRow w.heap.size 9 1 v5 (allF (l.take i) name).length (strs (allF (l.take i) name))) ∧ Hid (Below w.heap.size w wr)) (fun _ vi _ => l.length - (RowKit.intOf vi).toNat)
  case atStart => exact ⟨0, Nat.zero_le _, rfl, World.ownsRow_nil _ _ _ _, Below.refl _ _⟩
  case round =>
    obtain ⟨i, hi, rfl, HO, HB⟩ := hrel
    rename World => W
    by_cases hlt : i < l.length
    · obtain ⟨a', c', e', hcap, hc⟩ := isFlds_below HS.out HB.out
      injection e' with e1 _ e2
      subst e1 e2
      obtain ⟨b, o, rfl, hc0, hc1⟩ := hc i (l.getD i ([], [])) (by simp [List.getD, hlt])
      have hm := HZ.out (l.getD i ([], [])) (by simp [List.getD, hlt])
      have htk : l.take (i + 1) = l.take i ++ [l.getD i ([], [])] := by
        rw [List.take_succ_eq_append_getElem hlt]; simp [List.getD, hlt]
      have hnx := allF_snoc (l.take i) (l.getD i ([], [])) name
      rw [← htk] at hnx
      have HNX := Lib.hid hnx
      have hal := allF_len (l.take i) name
      have htl : (l.take i).length ≤ i := by simp; omega
      have hal2 : (allF (l.take i) name).length ≤ 1048576 := by omega
      clear hc htk hnx hal htl
      generalize l.getD i ([], []) = f at *
      obtain ⟨n, x⟩ := f
      have hnz := size_mkS n
      have hxz := size_mkS x
      simp only at hm hc0 hc1
      have HC := fun W : World => rsm_any (mkS n) (mkS name) W (by omega) (by rw [HNZ.out]; exact hn)
      rw [bs_mkS, bs_mkS] at HC
      have g0 : (0 : Int) ≤ (i : Int) := by omega
      have g1 : (i : Int) < (l.length : Int) := by omega
      have hlt1 := cell_lt (p := ⟨b, o + i * 2 + 1, none⟩) hc1
      clear hnz hxz
      have hkk : isN name (n, x) = decide (lowL n = lowL name) := rfl
      rw [← hkk] at HC
      clear hkk
      generalize allF (l.take i) name = P at *
      cases hk : isN name (n, x)
      · rw [hk] at HC HNX
        have hx2 : allF (l.take (i + 1)) name = P := by rw [HNX.out]; simp
        have HX := Lib.hid hx2
        have HC2 := Lib.hid HC
        clear HC hk hx2
        go_wp2_with fail
        refine (HC2.out _).mono ?_
        rintro e w5 ⟨rfl, hb⟩
        have HO5 := Lib.hid (own_keep HO.out hb)
        have HB5 := Lib.hid (HB.out.trans (hb.mono HB.out.size))
        clear hb
        go_wp2_with fail
        refine ⟨⟨i + 1, hlt, by go_num, ?_, HB5⟩, by simp [RowKit.intOf]; omega⟩
        show World.ownsRow _ _ _ _ _ _ _
        rw [HX.out]
        exact HO5.out
      · rw [hk] at HC HNX
        have hx2 : allF (l.take (i + 1)) name = P ++ [x] := by rw [HNX.out]; simp
        have HX := Lib.hid hx2
        have HC2 := Lib.hid HC
        clear HC hk hx2
        go_wp2_with fail
        refine (HC2.out _).mono ?_
        rintro e w6 ⟨rfl, hb⟩
        have hown' := own_keep HO.out hb
        have hB' : w.heap.size ≤ w6.heap.size := Nat.le_trans HB.out.size hb.size
        have HB6 := Lib.hid (HB.out.trans (hb.mono HB.out.size))
        have p1 : w6.cell? ⟨b, o + i * 2 + 1, none⟩ = some (.string (mkS x)) := (hb.cell (p := ⟨b, o + i * 2 + 1, none⟩) hlt1).trans hc1
        clear hb
        go_wp2_with (at_builtin; refine wpList_append_own _ rfl _ _ 34 rfl w.heap.size 9 i0 (.string .empty) 1 16 Tryd.underlying34 hi0 hz0 hz1 hz2 rfl (by decide) _ _ _ rfl (hown'.alloc _) ⟨w6.heap.size, 0, none⟩ 1 1 [.string (mkS x)] rfl rfl ?c1 ?c2 ?c3 ?c4 ?c5 ?_)
        case c1 => exact cell_one_new _ _ _
        case c2 => simp [Value.oneCell']
        case c3 => unfold maxLen; omega
        case c4 => omega
        case c5 => simp; omega
        intro v' w1 hown1 hg1 _
        have hb1 : Below w.heap.size w w1 := HB6.out.trans (((Below.refl w.heap.size w6).alloc hB' _).trans (below_of_grown hg1 (hown'.alloc _) (by simp; omega)))
        have HB7 := Lib.hid hb1
        have HO7 := Lib.hid hown1
        clear hb1 hown1 hg1 hown'
        go_wp2_with fail
        refine ⟨⟨i + 1, hlt, by go_num, ?_, HB7⟩, by simp [RowKit.intOf]; omega⟩
        show World.ownsRow _ _ _ _ _ _ _
        rw [HX.out, List.length_append, strs_append]
        exact HO7.out
    · have hil : l.take i = l := List.take_of_length_le (by omega)
      rw [hil] at HO
      go_wp2_with fail
      go_ret
      exact ⟨_, rfl, HO.out, HB.out⟩

end Tk
end Go.Proofs.YtpcdaaijlgilkaaDoor
namespace Go.Proofs.YtpcdaaijlgilkaaDoor
open Go.RowKit
namespace Tk

theorem joinB_snoc (P : List Bs) (x : Bs) : joinB (P ++ [x]) = if P = [] then x else joinB P ++ [44, 32] ++ x := by
  unfold joinB
  cases P with
  | nil => simp [Lib.join_one]
  | cons y r =>
    rw [if_neg (by simp), List.cons_append, Lib.join_cons, Lib.join_cons]
    simp [Lib.joinTail]
theorem joinB_len (P : List Bs) : (joinB P).length ≤ Lib.lens P + 2 * P.length := by
  unfold joinB
  cases P with
  | nil => simp [Lib.join_nil]
  | cons x r => rw [Lib.join_length]; simp only [List.length_cons, List.length_nil]; omega
theorem joinB_take (P : List Bs) (i : Nat) : (joinB (P.take i)).length ≤ Lib.lens P + 2 * P.length := by
  have h1 := joinB_len (P.take i)
  have h2 := Lib.lens_take_le P i
  rw [List.length_take] at h1
  omega
theorem lens_mem (P : List Bs) (x : Bs) (h : x ∈ P) : x.length ≤ Lib.lens P := by
  induction P with
  | nil => simp at h
  | cons y t ih =>
    rcases List.mem_cons.1 h with rfl | h
    · simp [Lib.lens]
    · have := ih h; simp [Lib.lens] at *; omega

set_option maxHeartbeats 4000000 in
set_option maxRecDepth 100000 in
theorem rjoin_any (v : Value) (P : List Bs) (w : World) (hs : IsStrs w v P) (hP : P.length ≤ 1048576) (hj : Lib.lens P + 2 * P.length ≤ 1000000) :
    Calls Tryd.prog 37 #[v] w fun e w' => e = .returned (.string (mkS (joinB P))) ∧ w = w' := by
  obtain ⟨a, c, rfl, hc⟩ := hs
  have HC := Lib.hid hc
  have HT := Lib.hid (joinB_take P)
  have HM := Lib.hid (lens_mem P)
  clear hc
  go_enter Tryd.func37, Tryd.ntmps37
  go_wp2_with fail
  go_loop [3, 4] (fun vs vi => ∃ i : Nat, i ≤ P.length ∧ vi = .int .i64 i ∧ vs = .string (mkS (joinB (P.take i)))) (fun _ vi => P.length - (RowKit.intOf vi).toNat)
  case atStart => exact ⟨0, Nat.zero_le _, rfl, rfl⟩
  case round =>
    obtain ⟨i, hi, rfl, rfl⟩ := hrel
    by_cases hlt : i < P.length
    · obtain ⟨b, o, rfl, hc0⟩ := HC.out i (P.getD i []) (by simp [List.getD, hlt])
      have htk : P.take (i + 1) = P.take i ++ [P.getD i []] := by rw [List.take_succ_eq_append_getElem hlt]; simp [List.getD, hlt]
      have hsn := joinB_snoc (P.take i) (P.getD i [])
      rw [← htk] at hsn
      have hz := HT.out i
      have hxz := HM.out (P.getD i []) (by simp [List.getD, hlt])
      have hnil : P.take i = [] ↔ i = 0 := by
        rw [List.take_eq_nil_iff]
        constructor
        · rintro (h | h)
          · exact h
          · rw [h] at hlt; simp at hlt
        · exact .inl
      clear htk
      generalize P.getD i [] = x at *
      generalize hJ2 : joinB (P.take (i + 1)) = J2 at *
      generalize hJ : joinB (P.take i) = J at *
      have HJ2 := Lib.hid hJ2
      have z1 := size_mkS J
      have z2 := size_mkS x
      have y1 : (mkS J).size ≤ 1000000 := by omega
      have y2 : (mkS x).size ≤ 1000000 := by omega
      have g0 : (0 : Int) ≤ (i : Int) := by omega
      have g1 : (i : Int) < (P.length : Int) := by omega
      by_cases hi0 : i = 0
      · have e0 : ¬ (0 : Int) < (i : Int) := by omega
        have hJe : J = [] := by rw [← hJ, hnil.2 hi0]; rfl
        rw [if_pos (hnil.2 hi0)] at hsn
        have E : Hid (mkS J ++ mkS x = mkS J2) := by show _ = _; rw [hJe, hsn, mkS_append]; rfl
        clear hnil hsn hJ hJ2 z1 z2 hi0 hJe
        go_wp2_with fail
        exact ⟨⟨i + 1, hlt, by go_num, by rw [HJ2.out]; exact congrArg Value.string E.out⟩, by simp [RowKit.intOf]; omega⟩
      · have e0 : (0 : Int) < (i : Int) := by omega
        rw [if_neg (fun h => hi0 (hnil.1 h))] at hsn
        have E : Hid (mkS J ++ ⟨#[44, 32]⟩ ++ mkS x = mkS J2) := by show _ = _; rw [hsn, ← mkS_append, ← mkS_append]; rfl
        clear hnil hsn hJ hJ2 z1 z2 hi0
        go_wp2_with fail
        exact ⟨⟨i + 1, hlt, by go_num, by rw [HJ2.out]; exact congrArg Value.string E.out⟩, by simp [RowKit.intOf]; omega⟩
    · have hil : P.take i = P := List.take_of_length_le (by omega)
      have HF := Lib.hid hil
      clear hil
      go_wp2_with fail
      go_ret
      exact ⟨by rw [HF.out]; rfl, rfl⟩

set_option maxHeartbeats 4000000 in
set_option maxRecDepth 100000 in
theorem rget_any (v : Value) (l : List (Bs × Bs)) (name : Bs) (w : World) (hs : IsFlds w v l) (hz : sumF l ≤ 1000000) (hn : name.length ≤ 1099511627776) (hl : l.length ≤ 1048576) :
    Calls Tryd.prog 11 #[v, .string (mkS name)] w fun e w' => e = .returned (.tuple #[.string (mkS (joinB (allF l name))), .bool (decide (0 < (allF l name).length))]) ∧ Below w.heap.size w w' := by
  have HA := Lib.hid (rall_any v l name w hs (sum_each l (by omega)) hn hl)
  unfold ListPost at HA
  obtain ⟨a, cap, rfl⟩ : ∃ a cap, v = .slice a l.length cap := by obtain ⟨a, c, h, -⟩ := hs; exact ⟨a, c, h⟩
  have hal := allF_len l name
  have hsm := sum_all name l
  have hP : (allF l name).length ≤ 1048576 := by omega
  have hj : Lib.lens (allF l name) + 2 * (allF l name).length ≤ 1000000 := by omega
  clear hs hz hal hsm
  generalize allF l name = P at *
  go_enter Tryd.func11, Tryd.ntmps11
  go_wp2_with fail
  refine HA.out.mono ?_
  rintro e w1 ⟨v1, rfl, ho, hb⟩
  have HB := Lib.hid hb
  have HJ := Lib.hid (rjoin_any v1 P w1 (isStrs_own ho) hP hj)
  obtain ⟨a1, c1, rfl⟩ : ∃ a c, v1 = .slice a P.length c := by obtain ⟨a, c, h, -⟩ := isStrs_own ho; exact ⟨a, c, h⟩
  clear ho hb hj
  by_cases hp : 0 < P.length
  all_goals
    go_wp2_with fail
    refine HJ.out.mono ?_
    rintro e w' ⟨rfl, rfl⟩
    go_wp2_with fail
    go_ret2
    exact ⟨by first | (rw [decide_eq_true hp]; done) | (rw [decide_eq_false hp]; done) | (simp [hp]; done) | rfl, HB.out⟩
end Tk
end Go.Proofs.YtpcdaaijlgilkaaDoor
namespace Go.Proofs.YtpcdaaijlgilkaaDoor
open Go.RowKit
namespace Tk

set_option maxHeartbeats 8000000 in
set_option maxRecDepth 100000 in
theorem rlist_any (v : Value) (l : List (Bs × Bs)) (name : Bs) (w : World) (hs : IsFlds w v l) (hz : sumF l ≤ 1000000) (hn : name.length ≤ 1099511627776) (hl : l.length ≤ 1048576) :
    Calls Tryd.prog 18 #[v, .string (mkS name)] w (ListPost w.heap.size (listF l name) w) := by
  have HA := Lib.hid (rall_any v l name w hs (sum_each l (by omega)) hn hl)
  unfold ListPost at HA
  have hlist : listF l name = (allF l name).flatMap splitL := rfl
  have HLI := Lib.hid hlist
  have hpc := Lib.hid (fun p hp => Nat.le_trans (all_piece name l p hp) hz)
  have hfl := Lib.hid (fun i => flat_sub (allF l name) i)
  have hal := allF_len l name
  have hPl : (allF l name).length ≤ 1048576 := by omega
  have hln := listF_len name l
  rw [hlist] at hln
  have hln2 : ((allF l name).flatMap splitL).length ≤ 1000000 := by omega
  obtain ⟨a, cap, rfl⟩ : ∃ a cap, v = .slice a l.length cap := by obtain ⟨a, c, h, -⟩ := hs; exact ⟨a, c, h⟩
  clear hs hz hlist hln hal
  generalize listF l name = Q at *
  generalize allF l name = P at *
  go_enter Tryd.func18, Tryd.ntmps18
  go_wp2_with fail
  refine HA.out.mono ?_
  rintro e w1 ⟨v1, rfl, ho, hb⟩
  have HB1 := Lib.hid hb
  have HS := Lib.hid (isStrs_own ho)
  have HLt := Lib.hid (fun k e => (ho.lt k e).2)
  obtain ⟨a1, c1, rfl⟩ : ∃ a c, v1 = .slice a P.length c := by obtain ⟨a, c, h, -⟩ := isStrs_own ho; exact ⟨a, c, h⟩
  clear ho hb
  go_wp2_with fail
  go_loopw [6, 7] (fun v5 vi wr => ∃ i : Nat, i ≤ P.length ∧ vi = .int .i64 i ∧ Hid (wr.ownsRow w1.heap.size 9 1 v5 ((P.take i).flatMap splitL).length (strs ((P.take i).flatMap splitL))) ∧ Hid (Below w1.heap.size w1 wr)) (fun _ vi _ => P.length - (RowKit.intOf vi).toNat)
  case atStart => exact ⟨0, Nat.zero_le _, rfl, World.ownsRow_nil _ _ _ _, Below.refl _ _⟩
  case round =>
    obtain ⟨i, hi, rfl, HO, HB⟩ := hrel
    rename World => W
    by_cases hlt : i < P.length
    · obtain ⟨a', c', e', hc⟩ := isStrs_later HS.out HB.out HLt.out
      injection e' with e1 _ e2
      subst e1 e2
      obtain ⟨b, o, rfl, hc⟩ := hc i (P.getD i []) (by simp [List.getD, hlt])
      have hm := hpc.out (P.getD i []) (by simp [List.getD, hlt])
      have htk := take_flat P i hlt
      have HTK := Lib.hid htk
      have hf1 := hfl.out i
      have hsl := split_len (P.getD i [])
      clear htk
      generalize P.getD i [] = x at *
      have hxz := size_mkS x
      have hsp := fun W : World => rSplit_any (mkS x) W (by omega)
      rw [bs_mkS] at hsp
      have HSP := Lib.hid hsp
      have g0 : (0 : Int) ≤ (i : Int) := by omega
      have g1 : (i : Int) < (P.length : Int) := by omega
      clear hsp hxz
      have hk1 : ((P.take i).flatMap splitL).length ≤ 1048576 := by omega
      have hk2 : (splitL x).length ≤ 1048576 := by omega
      generalize (P.take i).flatMap splitL = R at *
      generalize splitL x = S at *
      go_wp2_with fail
      refine (HSP.out _).mono ?_
      rintro e w3 ⟨v3, rfl, ho3, hb3⟩
      have HO3 := Lib.hid (own_keep HO.out hb3)
      have HB3 := Lib.hid (HB.out.trans (hb3.mono HB.out.size))
      have HS3 := Lib.hid ho3
      clear ho3 hb3
      go_wp2_with (at_builtin; refine join_guarded (by rfl) _ _ rfl w1.heap.size _ _ _ R S rfl rfl HO3.out HS3.out HB3.out.size hk1 hk2 ?_)
      intro v4 w4 ho4 hb4
      have HB4 := Lib.hid (HB3.out.trans hb4)
      have HO4 : Hid (w4.ownsRow w1.heap.size 9 1 v4 ((P.take (i + 1)).flatMap splitL).length (strs ((P.take (i + 1)).flatMap splitL))) := by
        show World.ownsRow _ _ _ _ _ _ _
        rw [HTK.out, List.length_append]; exact ho4
      clear ho4 hb4
      go_wp2_with fail
      exact ⟨⟨i + 1, hlt, by go_num, HO4, HB4⟩, by simp [RowKit.intOf]; omega⟩
    · have hil : P.take i = P := List.take_of_length_le (by omega)
      rw [hil, ← HLI.out] at HO
      have HBF := Lib.hid (HB1.out.trans (HB.out.mono HB1.out.size))
      have HOF := Lib.hid (World.ownsRow.mono HO.out HB1.out.size)
      go_wp2_with fail
      go_ret
      exact ⟨_, rfl, HOF.out, HBF.out⟩
end Tk
end Go.Proofs.YtpcdaaijlgilkaaDoor
namespace Go.Proofs.YtpcdaaijlgilkaaDoor
open Go.RowKit
namespace Tk

/-- what a round leaves behind: the body has run to its end -/
def BodyEnds (n₀ : Nat) (W : World) (I : World → Prop) : Exit → Act → World → Prop
  | .normal, _, W' => KeepsOthers W W' ∧ Below n₀ W W' ∧ I W'
  | _, _, _ => False

/-- the iterator hands over xs, whatever abides its own blocks -/
def Hands (F : Fence) (n : Nat) (P : Program) (gf : Nat) (lb : Array Value) (xs : List Bs) (w : World) : Prop :=
  ∀ (l : Nat) (J : List Bs → World → Prop) (W : World), Below w.heap.size w W → OwnFrom W.heap.size J →
    (∀ pre x W1, J pre W1 → pre ++ [x] <+: xs → YieldAt F (n - 1) P l #[.string (mkS x)] W1 fun e W' => e = .returned (.bool true) ∧ J (pre ++ [x]) W' ∧ Below w.heap.size W1 W' ∧ KeepsFrom W.heap.size W1 W') →
    J [] W → CallsIn F n P gf (#[.func (.yield l) #[] #[]] ++ lb) W fun e W' => (∃ v, e = .returned v) ∧ J xs W'

theorem range_hands {F : Fence} {n : Nat} {P : Program} {g : Operand} {ps : Array Tmp} {assign body : Code} {Q : Exit → Act → World → Prop} {a : Act} {w w0 : World} (hb0 : Below w0.heap.size w0 w)
    (hro : F.round = none) (h1 : 1 ≤ n) {gf : Nat} {lb : Array Value} (hg : a.eval g = .func (.func gf) #[] lb) (hF : F.fn gf) (eg : ∀ args w, (callFunc gf args).run P w = .ok (.enter gf args) w)
    (xs : List Bs) (hps : ps.size = 1) (hseq : Hands F (n - 1) P gf lb xs w0) (I : List Bs → World → Prop) (hI : OwnFrom w.heap.size I) (h0 : I [] w) (a₁ : Bs → Act)
    (hassign : ∀ (l : Nat) (x : Bs) (W : World) (K : Act → World → Prop), K (a₁ x) W → assign.wpIn (F.inRound l) (n - 1 - 1) P (Exit.then K (fun _ _ _ => False)) { tmps := (ps.zip #[.string (mkS x)]).foldl (fun t (p, v) => t.setIfInBounds p v) a.tmps, defers := [] } W)
    (hbody : ∀ (l : Nat) (pre : List Bs) (x : Bs) (W : World), I pre W → pre ++ [x] <+: xs → body.wpIn (F.inRound l) (n - 1 - 1) P (BodyEnds w0.heap.size W (I (pre ++ [x]))) (a₁ x) W)
    (hdone : ∀ (D : Nat) (W : World), w.heap.size ≤ D → I xs W → W.heap[D]? = some (.deferred (some [])) → Q .normal { a with defers := { target := .collected D, args := #[] } :: a.defers } W) :
    (Code.rangeFunc g ps assign body).wpIn F n P Q a w := by
  refine wpIn_rangeFunc fun fn hfn => ?_
  rw [hro]
  -- the two blocks that the statement lays
  have hle : w0.heap.size ≤ w.heap.size := hb0.size
  generalize hB : w.heap.size = B at *
  let rc : LoopState → Loop := fun st => { state := st, pending := none, fn, tmps := a.tmps, params := ps, assign, body, defers := B }
  let W1 : World := (w.alloc (.deferred (some []))).alloc (.loop (rc .ready))
  have hs1 : W1.heap.size = B + 2 := by show ((w.alloc _).alloc _).heap.size = _; simp [hB]
  have hl1 : W1.heap[B + 1]? = some (.loop (rc .ready)) := by
    have := World.alloc_heap_new (w.alloc (.deferred (some []))) (.loop (rc .ready))
    rw [World.size_alloc, hB] at this
    exact this
  have hd1 : W1.heap[B]? = some (.deferred (some [])) := by
    have h2 := World.alloc_heap_new w (.deferred (some []))
    rw [hB] at h2
    exact (Below.heap_alloc _ _ _ (by simp [hB])).trans h2
  have hi1 : I [] W1 := hI.alloc _ (hI.alloc _ h0)
  have hb1 : Below B w W1 := ((Below.refl B w).alloc (by omega) _).alloc (by simp [hB]) _
  refine ⟨B + 1, [{ target := .collected B, args := #[] }], W1, { target := .fn (.func gf) lb, args := #[.func (.yield (B + 1)) #[] #[]] }, W1, gf, #[.func (.yield (B + 1)) #[] #[]] ++ lb, W1, ?_, ?_, ?_, ?_, fun _ => h1, ?_⟩
  · have := run_enterLoop_outer (P := P) (w := w) fn a.tmps ps assign body
    rw [hB] at this
    exact this
  · simp only [resolve, hg]
    simp [go_sem]
  · intro f' hf'
    simp [Target.leads] at hf'
    subst hf'
    exact hF
  · simp [invoke, go_sem, eg]
  · let J : List Bs → World → Prop := fun pre W => I pre W ∧ W.heap[B + 1]? = some (.loop (rc .ready)) ∧ W.heap[B]? = some (.deferred (some []))
    have hJ : OwnFrom W1.heap.size J := by
      rintro s W W' row ⟨a1, a2, a3⟩ hgr hr
      have hne : ∀ k, k < B + 2 → some k ≠ row := fun k hk e => by
        have := (hr k e.symm).1
        omega
      exact ⟨hI s W W' row a1 hgr (fun r e => ⟨by have := (hr r e).1; omega, (hr r e).2⟩), (hgr.block _ (Array.getElem?_eq_some_iff.1 a2).1 (hne _ (by omega))).trans a2, (hgr.block _ (Array.getElem?_eq_some_iff.1 a3).1 (hne _ (by omega))).trans a3⟩
    refine (hseq (B + 1) J W1 (hb0.trans (hb1.mono hle)) hJ ?_ ⟨hi1, hl1, hd1⟩).mono ?_
    · rintro pre x W ⟨i1, i2, i3⟩ hpre
      have hlt : B + 1 < W.heap.size := (Array.getElem?_eq_some_iff.1 i2).1
      refine ⟨fn, _, assign, body, run_yield (P := P) (args := #[.string (mkS x)]) i2 hps.symm, roundIn_of_wpIn hfn (hassign _ x W _ ⟨_, run_beginRound i2 rfl, ?_⟩)⟩
      generalize hW2 : W.putObj (B + 1) (.loop { rc .ready with state := .busy }) = W2
      have j2 : W2.heap[B + 1]? = some (.loop { rc .ready with state := .busy }) := by rw [← hW2]; exact World.putObj_heap_same hlt
      have j3 : W2.heap[B]? = some (.deferred (some [])) := by rw [← hW2]; exact (World.putObj_heap_other (by omega)).trans i3
      have jI : I pre W2 := by rw [← hW2]; exact hI.putObj _ i1 (by omega) i2 rfl
      have jB : Below B W W2 := by rw [← hW2]; exact (Below.refl B W).grown (grownBy_putObj' W _ _) (by omega) (fun k e => by cases e; omega)
      have jK : KeepsFrom W1.heap.size W W2 := by rw [← hW2]; exact KeepsFrom.of_grownBy (grownBy_putObj' W _ _) (fun k e => by cases e; omega)
      refine wpIn_mono (hbody _ pre x W2 jI hpre) ?_
      rintro e a3 W3 hp
      cases e with
      | normal =>
        obtain ⟨k1, k2, k3⟩ := hp
        have l2 := k1.same _ _ j2 rfl
        have l3 := k1.same _ _ j3 rfl
        have hlt3 := (Array.getElem?_eq_some_iff.1 l2).1
        have hend := run_endRound (P := P) none l2
        refine ⟨_, _, hend, rfl, ⟨hI.putObj _ k3 (by omega) l2 rfl, World.putObj_heap_same hlt3, (World.putObj_heap_other (by omega)).trans l3⟩, ?_, ?_⟩
        · exact ((jB.mono hle).trans k2).trans ((Below.refl w0.heap.size W3).grown (grownBy_putObj' W3 _ _) (by omega) (fun k e => by cases e; omega))
        · exact (jK.trans (k1.from _)).trans (KeepsFrom.of_grownBy (grownBy_putObj' W3 _ _) (fun k e => by cases e; omega))
      | ret => exact hp.elim
      | exit id => exact hp.elim
      | goto t => exact hp.elim
      | panic ch => exact hp.elim
      | outgrown => exact hp.elim
    · rintro e W2 ⟨⟨v, rfl⟩, i1, i2, i3⟩
      refine ⟨none, _, run_endLoop (P := P) i2 (by simp [rc]), ?_⟩
      exact hdone B _ (Nat.le_refl _) (hI.putObj _ i1 (by omega) i2 rfl) ((World.putObj_heap_other (by omega)).trans i3)
end Tk
end Go.Proofs.YtpcdaaijlgilkaaDoor
namespace Go.Proofs.YtpcdaaijlgilkaaDoor
open Go.RowKit Go.Maps
namespace Tk

attribute [local go_sem] Oper.semAt_some

theorem zeroUnit (w : World) : (zeroValue 79).run Tryd.prog w = .ok (.agg #[]) w := by kernel_rfl
theorem strKeyed : Maps.Keyed Tryd.prog 9 := string_keyed Tryd.underlying9
def setS (S : List Bs) : DataW Unit := setOf (.agg []) (S.map fun x => .string x)
theorem has_setS (S : List Bs) (x : Bs) : Maps.has (setS S) (.string x) = decide (x ∈ S) := by
  unfold setS
  rw [has_setOf _ _ _ (fun y hy => by
    rw [List.mem_map] at hy
    obtain ⟨z, -, rfl⟩ := hy
    simp [WideAt.IsKeyLit])]
  rw [List.any_map]
  induction S with
  | nil => simp
  | cons y t ih =>
    rw [List.any_cons, ih]
    by_cases h : x = y
    · subst h; simp [Lit.sameKey]
    · have h2 : ¬ y = x := fun e => h e.symm
      simp [Lit.sameKey, h, h2]
theorem setS_snoc (S : List Bs) (x : Bs) : setS (S ++ [x]) = (setS S).put (.string x) (.agg []) := by
  unfold setS
  rw [List.map_append, List.map_cons, List.map_nil, setOf_snoc]

theorem once_pre : ∀ (L : List Bs) (s : List Bs) (j : Nat), onceGo s (L.take j) <+: onceGo s L
  | [], s, j => by simp
  | y :: t, s, 0 => by simp [onceGo]
  | y :: t, s, j + 1 => by
    rw [List.take_succ_cons, onceGo, onceGo]
    split
    · exact once_pre t s j
    · have := once_pre t (y :: s) j
      obtain ⟨r, hr⟩ := this
      exact ⟨r, by rw [← hr]; rfl⟩
theorem once_step (L : List Bs) (k : Nat) (h : k < L.length) : onceGo [] (L.take (k + 1)) = onceGo [] (L.take k) ++ (if L.getD k [] ∈ onceGo [] (L.take k) then [] else [L.getD k []]) := by
  have e : L.take (k + 1) = L.take k ++ [L.getD k []] := by rw [List.take_succ_eq_append_getElem h]; simp [List.getD, h]
  rw [e, once_snoc]
  congr 1
  by_cases hx : L.getD k [] ∈ L.take k
  · rw [if_pos (.inr hx), if_pos ((once_mem _ _ _).2 ⟨hx, by simp⟩)]
  · rw [if_neg (fun h2 => h2.elim (fun h3 => by simp at h3) hx), if_neg (fun h2 => hx ((once_mem _ _ _).1 h2).1)]

theorem owns_from {H : Type} {P : Program} {k : TypeId} {R : Value → Option (DataW H × List MemPlace)} {w w' : World} {b n B : Nat} {D : DataW H} (h : w.ownsMap P k R b n D) (hk : KeepsFrom B w w') (hb : B ≤ b) : w'.ownsMap P k R b n D := by
  obtain ⟨es, ck, h1, F, hs, hD⟩ := h
  exact ⟨es, ck, hk.same _ _ hb h1 rfl, F, hs, hD⟩

set_option maxHeartbeats 4000000 in
set_option maxRecDepth 100000 in
theorem names1_hands (F : Fence) (n : Nat) (hF : F.fn 63) (hro : F.round = none) (hn : 1 ≤ n) (Bx c : Nat) (ad : Option Addr) (L : List Bs) (w : World) (hc : w.cell? ⟨Bx, 0, none⟩ = some (.slice ad L.length c)) (hs : IsStrs w (.slice ad L.length c) L) (hl : L.length ≤ 1048576) (hz : ∀ x ∈ L, x.length ≤ 1099511627776) :
    Hands F n Tryd.prog 63 #[.pointer (some ⟨Bx, 0, none⟩)] (onceGo [] L) w := by
  intro l J W hW hJ hY h0
  have hmm := @run_makeMap Tryd.prog
  have hbx : W.cell? ⟨Bx, 0, none⟩ = some (.slice ad L.length c) := (hW.cell (p := ⟨Bx, 0, none⟩) (cell_lt (p := ⟨Bx, 0, none⟩) hc)).trans hc
  have hbx2 : (W.alloc (.map #[] 0)).cell? ⟨Bx, 0, none⟩ = some (.slice ad L.length c) := (World.cell?_alloc_lt _ _ _ (cell_lt (p := ⟨Bx, 0, none⟩) hbx)).trans hbx
  have HS := Lib.hid hs
  have HZ := Lib.hid hz
  have HJ := Lib.hid hJ
  have HY := Lib.hid hY
  have HW := Lib.hid hW
  have H0 := Lib.hid h0
  clear hs hz hJ hY hW h0 hc
  refine callsIn_of_wp Tryd.func63 rfl hF ?_ hro
  simp only [Tryd.ntmps63, List.size_toArray, List.length_cons, List.length_nil, Nat.reduceAdd, Nat.reduceSub, Array.replicate_succ, Array.replicate_zero, List.push_toArray, List.append_toArray, List.nil_append, List.cons_append]
  gi_wp2
  gi_loopw [11] (fun vi wr => ∃ k : Nat, k ≤ L.length ∧ vi = .int .i64 k ∧ Hid (wr.ownsMap Tryd.prog 9 (unitElem (H := Unit)) W.heap.size k (setS (onceGo [] (L.take k)))) ∧ Hid (J (onceGo [] (L.take k)) wr) ∧ Hid (Below w.heap.size w wr) ∧ W.heap.size + 1 ≤ wr.heap.size) (fun vi _ => L.length - (RowKit.intOf vi).toNat)
  case atStart => exact ⟨0, Nat.zero_le _, rfl, World.ownsMap_made _ _ _ _, HJ.out.alloc _ H0.out, (HW.out).alloc HW.out.size _, by simp⟩
  case round =>
    obtain ⟨k, hkl, rfl, hM, hJk, hB, hsz⟩ := hrel
    by_cases hk : k < L.length
    · obtain ⟨a', c', ev, hcs⟩ := HS.out
      obtain ⟨rfl, rfl⟩ : ad = a' ∧ c = c' := by cases ev; exact ⟨rfl, rfl⟩
      obtain ⟨b, o, rfl, hcw⟩ := hcs k (L.getD k []) (by simp [List.getD, hk])
      have hcr : wr.cell? ⟨b, o + k, none⟩ = some (.string (mkS (L.getD k []))) := (hB.out.cell (p := ⟨b, o + k, none⟩) (cell_lt (p := ⟨b, o + k, none⟩) hcw)).trans hcw
      have HT := Lib.hid (once_step L k hk)
      have HP := Lib.hid (once_pre L [] (k + 1))
      have hzx : (L.getD k []).length ≤ 1099511627776 := HZ.out _ (by simp [List.getD, hk])
      clear ev hcs hcw hbx hbx2
      generalize L.getD k [] = x at *
      have hkey : keyOf Tryd.prog 9 (.string (mkS x)) = some (.string x) := by
        have h := WideMaps.keyOf_string_mk Tryd.underlying9 (s := mkS x) (by rw [size_mkS]; simp only [maxLen]; omega)
        rw [h]; exact congrArg (fun y => some (Lit.string y)) (bs_mkS x)
      have HK := Lib.hid hkey
      clear hkey
      by_cases hin : x ∈ onceGo [] (L.take k)
      · have hhas : Maps.has (setS (onceGo [] (L.take k))) (.string x) = true := by rw [has_setS, decide_eq_true hin]
        gi_wp2_with (gi_at_lookup; refine wpListIn_lookup_own_unit _ rfl _ _ 78 rfl 9 79 strKeyed Tryd.underlying78 (zeroUnit _) W.heap.size k _ rfl hM.out _ (.string x) rfl HK.out ?_)
        rw [if_pos hin, List.append_nil] at HT
        have e1 := HT.out
        refine ⟨⟨k + 1, hk, by simp, ?_, ?_, hB.out.alloc hB.out.size _, by simp; omega⟩, ?_⟩
        · show World.ownsMap _ _ _ _ _ _ _
          rw [e1]; exact (hM.out.alloc _).mono (Nat.le_succ k)
        · show J _ _
          rw [e1]; exact HJ.out.alloc _ hJk.out
        · simp [RowKit.intOf]; omega
      · have hhas : Maps.has (setS (onceGo [] (L.take k))) (.string x) = false := by rw [has_setS, decide_eq_false hin]
        rw [if_neg hin] at HT
        have HM1 := Lib.hid (hM.out.alloc (Obj.cells #[] 79))
        have HJ1 := Lib.hid (HJ.out.alloc (Obj.cells #[] 79) hJk.out)
        have HB1 := Lib.hid (hB.out.alloc hB.out.size (Obj.cells #[] 79))
        have hbz : W.heap.size < (wr.alloc (Obj.cells #[] 79)).heap.size := by simp; omega
        have hn1 : 1 ≤ n := hn
        gi_wp2_with (first
          | (gi_at_lookup; refine wpListIn_lookup_own_unit _ rfl _ _ 78 rfl 9 79 strKeyed Tryd.underlying78 (zeroUnit _) W.heap.size k _ rfl hM.out _ (.string x) rfl HK.out ?_)
          | (gi_at_mapUpdate; refine wpListIn_mapUpdate_own _ rfl _ _ _ 78 rfl 9 79 strKeyed Tryd.underlying78 unitElem W.heap.size k _ rfl HM1.out (by simp only [maxLen]; omega) _ _ (.string x) rfl rfl HK.out (.agg []) [] unitElem_mk ?_
             intro w1 hown1 hgrow1
             have HM2 := Lib.hid hown1
             have HJ2 := Lib.hid (HJ.out _ _ w1 _ HJ1.out hgrow1 (fun r e => by cases e; obtain ⟨es, ck, hb, -⟩ := HM1.out; exact ⟨Nat.le_refl _, _, hb, rfl⟩))
             have HB2 := Lib.hid (HB1.out.grown hgrow1 HB1.out.size (fun r e => by cases e; exact HW.out.size))
             have hz2 := hgrow1.size
             obtain ⟨fn, tmps, assign, body, hy, hR⟩ := HY.out _ x w1 HJ2.out (by have h2 := HP.out; rw [HT.out] at h2; exact h2)
             clear hown1))
        refine hR.mono ?_
        rintro e W3 ⟨rfl, hJ3, hk3, hf3⟩
        have HJ3 := Lib.hid hJ3
        have HB3 := Lib.hid (HB2.out.trans hk3)
        have hz3 := hf3.size
        have HM3 : Hid (W3.ownsMap Tryd.prog 9 (unitElem (H := Unit)) W.heap.size (k + 1) (setS (onceGo [] (L.take k) ++ [x]))) := by
          rw [setS_snoc]; exact owns_from HM2.out hf3 (Nat.le_refl _)
        clear hJ3 hk3 hf3 hgrow1
        gi_wp2
        have e1 := HT.out
        refine ⟨⟨k + 1, hk, by simp, ?_, ?_, HB3, by omega⟩, ?_⟩
        · rw [e1]; exact HM3
        · rw [e1]; exact HJ3
        · simp [RowKit.intOf]; omega
    · obtain rfl : k = L.length := by omega
      have HJ3 := hJk.out
      rw [List.take_length] at HJ3
      have HJ4 := Lib.hid HJ3
      clear HJ3 hbx hbx2
      gi_wp2
      go_end0
      exact ⟨⟨_, rfl⟩, HJ4.out⟩
end Tk
end Go.Proofs.YtpcdaaijlgilkaaDoor
