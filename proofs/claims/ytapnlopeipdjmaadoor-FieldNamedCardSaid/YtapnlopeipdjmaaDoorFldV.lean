/- field.Get, field.List: however many fields have the name. -/
import Derived.Test.YtapnlopeipdjmaaDoorFldG
import Derived.Test.YtapnlopeipdjmaaDoorJoin
import Derived.Test.YtapnlopeipdjmaaDoorSmall0
import Derived.Deep.Onto
import Derived.Lib.Join
namespace Go.Proofs.YtapnlopeipdjmaaDoor
open Go.RowKit
namespace Tk

def joinB (P : List Bs) : Bs := Lib.join P [44, 32]
theorem joinB_nil : joinB [] = [] := rfl
theorem map_mkS : ∀ (P : List Bs), (P.map mkS).map (·.data.toList) = P
  | [] => rfl
  | x :: t => by rw [List.map_cons, List.map_cons, map_mkS t]; rfl
theorem sum_all (name : Bs) : ∀ l : List (Bs × Bs), Lib.lens (allF l name) + 2 * (allF l name).length ≤ sumF l
  | [] => by simp [allF, Lib.lens, sumF]
  | f :: t => by
    have ih := sum_all name t
    have e : allF (f :: t) name = (if isN name f then [f.2] else []) ++ allF t name := by unfold allF; cases h : isN name f <;> simp [h]
    rw [e]
    unfold sumF
    cases isN name f
    · simp; omega
    · simp [Lib.lens] at *; omega
theorem joinB_le (name : Bs) (l : List (Bs × Bs)) : (joinB (allF l name)).length ≤ sumF l := by
  have h := sum_all name l
  unfold joinB
  cases hh : allF l name with
  | nil => simp [Lib.join_nil]
  | cons x r => rw [Lib.join_length]; rw [hh] at h; simp only [List.length_cons, List.length_nil] at *; omega
/-- what List tells -/
def listF (l : List (Bs × Bs)) (name : Bs) : List Bs := (allF l name).flatMap splitL
theorem flat_len : ∀ P : List Bs, (P.flatMap splitL).length ≤ Lib.lens P + P.length
  | [] => by simp
  | x :: t => by
    have := flat_len t
    have h2 := split_len x
    simp [Lib.lens] at *; omega
theorem listF_len (name : Bs) (l : List (Bs × Bs)) : (listF l name).length ≤ sumF l := by
  have := flat_len (allF l name)
  have h := sum_all name l
  unfold listF; omega
theorem flat_piece : ∀ (P : List Bs) (p : Bs), p ∈ P.flatMap splitL → p.length ≤ Lib.lens P
  | [], p, h => by simp at h
  | x :: t, p, h => by
    rw [List.flatMap_cons, List.mem_append] at h
    rcases h with h | h
    · have := split_piece x p h; simp [Lib.lens] at *; omega
    · have := flat_piece t p h; simp [Lib.lens] at *; omega
theorem listF_piece (name : Bs) (l : List (Bs × Bs)) (p : Bs) (h : p ∈ listF l name) : p.length ≤ sumF l := by
  have := flat_piece _ p h
  have h := sum_all name l
  omega
theorem all_piece (name : Bs) (l : List (Bs × Bs)) (p : Bs) (h : p ∈ allF l name) : p.length ≤ sumF l := by
  have h2 := sum_all name l
  have : ∀ (P : List Bs), p ∈ P → p.length ≤ Lib.lens P := by
    intro P
    induction P with
    | nil => intro h; simp at h
    | cons x t ih =>
      intro h
      rcases List.mem_cons.1 h with rfl | h
      · simp [Lib.lens]
      · have := ih h; simp [Lib.lens] at *; omega
  have := this _ h
  omega
theorem take_flat (P : List Bs) (i : Nat) (h : i < P.length) : (P.take (i + 1)).flatMap splitL = (P.take i).flatMap splitL ++ splitL (P.getD i []) := by
  rw [List.take_succ_eq_append_getElem h, List.flatMap_append]; simp [List.getD, h]
theorem flat_sub (P : List Bs) (i : Nat) : ((P.take i).flatMap splitL).length ≤ (P.flatMap splitL).length := by
  have e : P.flatMap splitL = (P.take i).flatMap splitL ++ (P.drop i).flatMap splitL := by rw [← List.flatMap_append, List.take_append_drop]
  rw [e, List.length_append]; omega

theorem sum_each (l : List (Bs × Bs)) (hz : sumF l ≤ 1099511627) : ∀ f ∈ l, f.1.length ≤ 1099511627776 ∧ f.2.length ≤ 1099511627776 := fun f hf => by
  have := sumF_mem l f hf; omega

set_option maxHeartbeats 4000000 in
set_option maxRecDepth 100000 in
theorem jnone_any (c : Nat) (a : Option Addr) (w : World) :
    Calls Tryd.prog 65 #[.slice a 0 c, .string ⟨#[44, 32]⟩] w fun e w' => e = .returned (.string ⟨#[]⟩) ∧ Below w.heap.size w w' := by
  go_enter Tryd.func65, Tryd.ntmps65
  go_wp2_with fail
  go_ret
  exact ⟨rfl, Below.refl _ _⟩
theorem joinP_any (v : Value) (P : List Bs) (base : Nat) (w : World) (ho : w.ownsRow base 9 1 v P.length (strs P)) (hP : P.length ≤ 1048576) (hj : (joinB P).length ≤ 1099511627776) :
    Calls Tryd.prog 65 #[v, .string ⟨#[44, 32]⟩] w fun e w' => e = .returned (.string (mkS (joinB P))) ∧ Below w.heap.size w w' := by
  rcases ho.2 with ⟨hv, hn⟩ | ⟨g, cap, cur, hv, hb, hg, hcap, -⟩
  · have hP0 : P = [] := List.eq_nil_of_length_eq_zero hn
    subst hP0
    rw [hv]
    exact jnone_any 0 none w
  · have hcells : ∀ (j : Nat) (x : ByteArray), (P.map mkS)[j]? = some x → w.cell? ⟨g, 0 + j, none⟩ = some (.string x) := by
      intro j x hx
      rw [List.getElem?_map] at hx
      obtain ⟨t, ht, rfl⟩ := Option.map_eq_some_iff.1 hx
      obtain ⟨a, c, e, hc⟩ := isStrs_own ho
      rw [hv] at e
      injection e with e1 _ _
      obtain ⟨b, o, e3, hc⟩ := hc j t ht
      rw [← e1] at e3
      injection e3 with e3
      injection e3 with e4 e5
      subst e4 e5
      exact hc
    have hlt := (ho.lt g (by rw [hv]; rfl)).2
    have h := Tryd.strings_Join g 0 cap (P.map mkS) ⟨#[44, 32]⟩ w hcells hlt (by rw [List.length_map]; omega) (by rw [List.length_map]; exact hcap) (by rw [map_mkS]; exact Nat.le_trans hj (by omega))
    rw [map_mkS, List.length_map] at h
    rw [hv]
    exact h

set_option maxHeartbeats 4000000 in
set_option maxRecDepth 100000 in
theorem fget_any (v : Value) (l : List (Bs × Bs)) (name : Bs) (w : World) (hs : IsFlds w v l) (hz : sumF l ≤ 1099511627) (hn : name.length ≤ 1099511627776) (hl : l.length ≤ 1048576) :
    Calls Tryd.prog 33 #[v, .string (mkS name)] w fun e w' => e = .returned (.tuple #[.string (mkS (joinB (allF l name))), .bool (decide (0 < (allF l name).length))]) ∧ Below w.heap.size w w' := by
  have HA := Lib.hid (fall_any v l name w hs (sum_each l hz) hn hl)
  unfold ListPost at HA
  obtain ⟨a, cap, rfl⟩ : ∃ a cap, v = .slice a l.length cap := by obtain ⟨a, c, h, -⟩ := hs; exact ⟨a, c, h⟩
  have hjl := joinB_le name l
  have hal := allF_len l name
  have hj : (joinB (allF l name)).length ≤ 1099511627776 := by omega
  have hP : (allF l name).length ≤ 1048576 := by omega
  clear hs hz hjl hal
  generalize allF l name = P at *
  go_enter Tryd.func33, Tryd.ntmps33
  go_wp2_with fail
  refine HA.out.mono ?_
  rintro e w1 ⟨v1, rfl, ho, hb⟩
  have HB := Lib.hid hb
  have HJ := Lib.hid (joinP_any v1 P _ w1 ho hP hj)
  obtain ⟨a1, c1, rfl⟩ : ∃ a c, v1 = .slice a P.length c := by obtain ⟨a, c, h, -⟩ := isStrs_own ho; exact ⟨a, c, h⟩
  clear ho hb hj
  by_cases hp : 0 < P.length
  all_goals
    go_wp2_with fail
    refine HJ.out.mono ?_
    rintro e w2 ⟨rfl, hb⟩
    have HB2 := Lib.hid (HB.out.trans (hb.mono HB.out.size))
    clear hb
    go_wp2_with fail
    go_ret2
    exact ⟨by first | (rw [decide_eq_true hp]; done) | (rw [decide_eq_false hp]; done) | (simp [hp]; done) | rfl, HB2.out⟩

end Tk
end Go.Proofs.YtapnlopeipdjmaaDoor
