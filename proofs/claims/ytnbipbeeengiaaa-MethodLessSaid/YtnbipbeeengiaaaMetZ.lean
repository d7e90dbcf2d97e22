/- What the texts of package method open with: lists of texts. -/
import Derived.Test.YtnbipbeeengiaaaRows
import Derived.WalkKit
import Derived.WalkSpells
import Derived.WalkLawsBesides
import Derived.Lib.Hide
import Derived.BigQuiet
import Derived.Deep.QuietTactic
import Derived.IntWalk
import Derived.OwnWalk
import Derived.Handy
import Derived.Test.YtnbipbeeengiaaaTok0
namespace Go.Proofs.Ytnbipbeeengiaaa
open Go.RowKit
namespace Tk

def strs (P : List Bs) : List Value := P.map fun t => .string (mkS t)
/-- a slice that holds these texts -/
def IsStrs (w : World) (v : Value) (l : List Bs) : Prop :=
  ∃ (a : Option Addr) (c : Nat), v = .slice a l.length c ∧ ∀ j t, l[j]? = some t → ∃ b o, a = some ⟨b, o, none⟩ ∧ w.cell? ⟨b, o + j, none⟩ = some (.string (mkS t))

theorem isStrs_own {w : World} {base : Nat} {v : Value} {l : List Bs} (h : w.ownsRow base 9 1 v l.length (strs l)) : IsStrs w v l := by
  rcases h.2 with ⟨hv, hn⟩ | ⟨g, cap, cur, hv, hb, hg, -⟩
  · exact ⟨none, 0, by rw [hv, hn], fun j t hj => by simp [List.eq_nil_of_length_eq_zero hn] at hj⟩
  · refine ⟨some ⟨g, 0, none⟩, cap, hv, fun j t hj => ⟨g, 0, rfl, ?_⟩⟩
    have := h.cells (g := g) (by rw [hv]; rfl) j (.string (mkS t)) (by simp [strs, hj])
    rw [Nat.zero_add]
    by_cases hj0 : j = 0
    · subst hj0; simpa [Addr.add] using this
    · simpa [Addr.add, hj0] using this

theorem isStrs_lit (w : World) (l : List Bs) (cs : Array Value) (t : TypeId) (c : Nat) (h : cs = (strs l).toArray) : IsStrs (w.alloc (.cells cs t)) (.slice (some ⟨w.heap.size, 0, none⟩) l.length c) l := by
  refine ⟨_, c, rfl, fun j x hj => ⟨w.heap.size, 0, rfl, ?_⟩⟩
  rw [Nat.zero_add, World.cell?_alloc_new, h]
  simp [strs, hj]

set_option maxHeartbeats 1000000 in
theorem same_any (v1 v2 : Value) (l m : List Bs) (w : World) (h1 : IsStrs w v1 l) (h2 : IsStrs w v2 m) (hl : l.length ≤ 1099511627776) (_hm : m.length ≤ 1099511627776) :
    Calls Try.prog 14 #[v1, v2] w fun r w' => r = .returned (.bool (decide (l = m))) ∧ ∃ n, w' = w.drewN n := by
  obtain ⟨a1, c1, rfl, k1⟩ := h1
  obtain ⟨a2, c2, rfl, k2⟩ := h2
  have K1 := Lib.hid k1
  have K2 := Lib.hid k2
  clear k1 k2
  by_cases hne : l.length = m.length
  · have hb : ((l.length : Int) != (m.length : Int)) = false := by rw [hne]; simp
    have HN := Lib.hid hne
    clear hne
    go_enter Try.func14, Try.ntmps14
    go_wp2_with fail
    go_loopw [5] (fun v wr => ∃ (j n : Nat), j ≤ l.length ∧ v = .int .i64 j ∧ wr = w.drewN n ∧ Hid (decide (l = m) = decide (l.drop j = m.drop j))) (fun v _ => l.length - (RowKit.intOf v).toNat)
    case atStart => exact ⟨0, 0, Nat.zero_le _, rfl, rfl, rfl⟩
    case round =>
      obtain ⟨j, n, hj, rfl, rfl, hd⟩ := hrel
      by_cases hlt : j < l.length
      · obtain ⟨b1, o1, rfl, e1⟩ := K1.out j (l.getD j []) (by simp [List.getD, hlt])
        obtain ⟨b2, o2, rfl, e2⟩ := K2.out j (m.getD j []) (by have := HN.out; simp [List.getD, show j < m.length by omega])
        have hjm : j < m.length := by have := HN.out; omega
        have s1 : l.drop j = l.getD j [] :: l.drop (j + 1) := by rw [List.drop_eq_getElem_cons hlt]; simp [List.getD, hlt]
        have s2 : m.drop j = m.getD j [] :: m.drop (j + 1) := by rw [List.drop_eq_getElem_cons hjm]; simp [List.getD, hjm]
        have S1 := Lib.hid s1
        have S2 := Lib.hid s2
        clear s1 s2
        generalize l.getD j [] = x at *
        generalize m.getD j [] = y at *
        go_wp2_with fail
        go_quiet (fail)
        go_wp2_with fail
        · have hx : (!(mkS x).toList == (mkS y).toList) = true := by assumption
          have hxy : x ≠ y := by intro e; subst e; simp at hx
          have fin : decide (l = m) = false := by
            rw [hd.out, S1.out, S2.out]; simp [hxy]
          go_ret
          exact ⟨by rw [fin]; rfl, _, World.drewN_drewN _ _ _⟩
        · have hx : (!(mkS x).toList == (mkS y).toList) = false := by assumption
          have hxy : x = y := by
            rw [toList_bs, toList_bs, bs_mkS, bs_mkS] at hx
            simpa using hx
          refine ⟨⟨j + 1, _, by omega, by go_num, rfl, ?_⟩, by simp [RowKit.intOf]; omega⟩
          show _ = _
          rw [hd.out, S1.out, S2.out, hxy]; simp
      · have fin : decide (l = m) = true := by
          have := HN.out
          rw [hd.out, List.drop_eq_nil_of_le (by omega), List.drop_eq_nil_of_le (by omega)]; simp
        have HF := Lib.hid fin
        clear fin
        go_wp2_with fail
        go_ret
        exact ⟨by rw [HF.out]; rfl, _, rfl⟩
  · have hb : ((l.length : Int) != (m.length : Int)) = true := by simp; omega
    have hf : decide (l = m) = false := by simp; exact fun e => hne (congrArg _ e)
    have HF := Lib.hid hf
    clear hf hne
    go_enter Try.func14, Try.ntmps14
    go_wp2_with fail
    go_ret
    exact ⟨by rw [HF.out]; rfl, 0, rfl⟩
end Tk
end Go.Proofs.Ytnbipbeeengiaaa
