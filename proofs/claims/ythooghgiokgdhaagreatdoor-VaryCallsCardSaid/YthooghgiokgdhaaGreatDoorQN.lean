/- HopA HopI HopK Ord HopB HopC HopD HopE LgT SamK HopQ, put together. -/
import Derived.Test.YthooghgiokgdhaaGreatDoorQM
import Derived.Test.YthooghgiokgdhaaGreatDoorQD
import Derived.Test.YthooghgiokgdhaaGreatDoorQC
import Derived.Maps.OwnOps
import Derived.Maps.OwnSet
import Derived.Maps.Views
import Derived.StringKeys
import Derived.Test.YthooghgiokgdhaaGreatDoorQA
import Derived.Deep.RegionHeld3
import Derived.Laws.Tables
import Derived.Laws.CopyOwn
import Derived.Test.YthooghgiokgdhaaGreatDoorQB
import Derived.Deep.MidRow
import Derived.Test.YthooghgiokgdhaaGreatDoorQG
import Derived.BigQuiet
namespace Go.Proofs.YthooghgiokgdhaaGreatDoor
open Go.RowKit Go.Maps Go.WideMaps
namespace Tk

theorem strKey : Maps.Keyed Tryz.prog 9 := string_keyed Tryz.underlying9
theorem keyIs (x : Bs) (h : x.length ≤ 1099511627776) : keyOf Tryz.prog 9 (.string (mkS x)) = some (.string x) := by
  have h := keyOf_string_mk Tryz.underlying9 (s := mkS x) (by rw [size_mkS]; simp only [maxLen]; omega)
  rw [h]; exact congrArg (fun y => some (Lit.string y)) (bs_mkS x)

/-- block b is a map to nothing whose keys are these names -/
def SetIs (w : World) (b : Nat) (S : List Bs) : Prop :=
  ∃ D : DataW Unit, w.ownsMap Tryz.prog 9 (unitElem (H := Unit)) b S.length D ∧ Maps.IsMap D ∧ ∀ x : Bs, Maps.has D (.string x) = decide (x ∈ S)
theorem SetIs.made (w : World) : SetIs (w.alloc (.map #[] 0)) w.heap.size [] :=
  ⟨.map [], World.ownsMap_made _ _ _ _, Maps.isMap_empty, fun x => by simp [Maps.has_eq]⟩
theorem SetIs.lt {w : World} {b : Nat} {S : List Bs} (h : SetIs w b S) : b < w.heap.size := by
  obtain ⟨D, h, -⟩ := h
  exact h.lt
theorem SetIs.kept {w w' : World} {b : Nat} {S : List Bs} {r : Option Nat} (h : SetIs w b S) (hg : w.grownBy w' r) (hr : some b ≠ r) : SetIs w' b S := by
  obtain ⟨D, h1, h2⟩ := h
  exact ⟨D, h1.kept hg hr, h2⟩
theorem grown_below {w w' : World} (h : Below w.heap.size w w') (r : Option Nat) : w.grownBy w' r := ⟨h.os, h.tape, h.output, h.size, fun k hk _ => h.block k hk⟩
theorem SetIs.later {w w' : World} {b : Nat} {S : List Bs} (h : SetIs w b S) (hb : Below w.heap.size w w') : SetIs w' b S := h.kept (grown_below hb none) (by simp)
theorem SetIs.more {w' : World} {b : Nat} {S : List Bs} {x : Bs} {D : DataW Unit} (hI : Maps.IsMap D) (hH : ∀ x : Bs, Maps.has D (.string x) = decide (x ∈ S))
    (h : w'.ownsMap Tryz.prog 9 (unitElem (H := Unit)) b (S.length + 1) (D.put (.string x) (.agg []))) : SetIs w' b (S ++ [x]) := by
  refine ⟨_, by rw [List.length_append]; exact h, hI.put _ _, fun y => ?_⟩
  by_cases e : y = x
  · subst e
    rw [Maps.has_put_same hI (by simp [WideAt.IsKeyLit]), decide_eq_true (by simp)]
  · rw [Maps.has_put_other (fun h => e (by injection h)), hH]
    simp [e]
theorem SetIs.cong {w : World} {b : Nat} {S T : List Bs} (h : SetIs w b S) (e : S = T) : SetIs w b T := e ▸ h
theorem grown_trans {a b c : World} {r : Option Nat} (h : a.grownBy b r) (k : b.grownBy c r) : a.grownBy c r :=
  ⟨k.os.trans h.os, k.tape.trans h.tape, k.output.trans h.output, Nat.le_trans h.size k.size, fun i hi hne => (k.block i (Nat.lt_of_lt_of_le hi h.size) hne).trans (h.block i hi hne)⟩
theorem grown_refl (a : World) (r : Option Nat) : a.grownBy a r := ⟨rfl, rfl, rfl, Nat.le_refl _, fun _ _ _ => rfl⟩
theorem below_of_set {a b : World} {B k : Nat} (h : a.grownBy b (some k)) (hk : B ≤ k) (hB : B ≤ a.heap.size) : Below B a b :=
  ⟨h.os, h.tape, h.output, h.size, fun i hi => h.block i (by omega) (by intro e; injection e with e; omega)⟩
theorem isStrs_grown {a b : World} {r : Option Nat} {v : Value} {l : List Bs} (h : IsStrs a v l) (hg : a.grownBy b r) (hr : ∀ k, r = some k → v.ownBlock ≠ some k) : IsStrs b v l := by
  obtain ⟨ad, c, rfl, hc⟩ := h
  refine ⟨ad, c, rfl, fun j t hj => ?_⟩
  obtain ⟨k, o, rfl, hcell⟩ := hc j t hj
  refine ⟨k, o, rfl, hg.cell hcell fun e => hr k e.symm rfl⟩

end Tk
end Go.Proofs.YthooghgiokgdhaaGreatDoor
namespace Go.Proofs.YthooghgiokgdhaaGreatDoor
open Go.RowKit
namespace Tk

/-- the box that it holds: a set -/
def HasM (w : World) (g b : Nat) (S : List Bs) : Prop := w.cell? ⟨g, 0, none⟩ = some (.map (some b)) ∧ SetIs w b S
theorem HasM.later {w w' : World} {g b : Nat} {S : List Bs} (h : HasM w g b S) (hb : Below w.heap.size w w') : HasM w' g b S := ⟨(hb.cell (p := ⟨g, 0, none⟩) (cell_lt (p := ⟨g, 0, none⟩) h.1)).trans h.1, h.2.later hb⟩

/-- where the first field of this name is, or -1 -/
def idxS (S : List Bs) (l : List (Bs × Bs)) : Int := if l.findIdx (inS S) < l.length then (l.findIdx (inS S) : Int) else -1
theorem idxS_hit (S : List Bs) (l : List (Bs × Bs)) (i : Nat) (hi : i < l.length) (h1 : ∀ f ∈ l.take i, inS S f = false) (h2 : inS S (l.getD i ([], [])) = true) : l.findIdx (inS S) = i := by
  rw [List.findIdx_eq hi]
  refine ⟨by simpa [List.getD, hi] using h2, fun j hj => ?_⟩
  refine h1 _ ?_
  rw [List.mem_take_iff_getElem]
  exact ⟨j, by omega, rfl⟩
theorem idxS_no (S : List Bs) (l : List (Bs × Bs)) (h1 : ∀ f ∈ l, inS S f = false) : l.findIdx (inS S) = l.length := by
  rw [List.findIdx_eq_length]; exact h1

end Tk
end Go.Proofs.YthooghgiokgdhaaGreatDoor
namespace Go.Proofs.YthooghgiokgdhaaGreatDoor
open Go.RowKit
namespace Tk

theorem SetIs.setCell {w : World} {b : Nat} {S : List Bs} (h : SetIs w b S) {a : Addr} (ha : b ≠ a.block) (u : Value) : SetIs (w.setCell a u) b S := by
  obtain ⟨D, h1, h2⟩ := h
  exact ⟨D, h1.setCell ha u, h2⟩
/-- the first fields of a row of one's own -/
theorem own_prefix {w : World} {B gr cap n : Nat} {K R : List (Bs × Bs)} (h : w.ownsRow B 31 2 (.slice (some ⟨gr, 0, none⟩) n cap) n (fcells (K ++ R))) : w.ownsRow B 31 2 (.slice (some ⟨gr, 0, none⟩) K.length cap) K.length (fcells K) := by
  have hn : K.length ≤ n := by
    have := h.1
    rw [fcells_len, List.length_append] at this; omega
  refine ⟨fcells_len K, .inr ?_⟩
  rcases h.2 with ⟨hv, -⟩ | ⟨g, c, cur, hv, hb, hg, hnc, hcm, hcs, ht⟩
  · injection hv with e1; cases e1
  · simp only [Value.slice.injEq, Option.some.injEq, Addr.mk.injEq, and_true, true_and] at hv
    obtain ⟨rfl, rfl⟩ := hv
    refine ⟨gr, cap, cur, rfl, hb, hg, by omega, hcm, hcs, ?_⟩
    have e : cur.toList.take (K.length * 2) = (cur.toList.take (n * 2)).take (K.length * 2) := by rw [List.take_take, Nat.min_eq_left (by omega)]
    rw [e, ht, show fcells (K ++ R) = fcells K ++ fcells R by simp [fcells], List.take_left' (fcells_len K)]
theorem own_setCs {B gr cap n : Nat} {xs : List Value} {e : TypeId} {k : Nat} : ∀ {w : World}, w.ownsRow B e k (.slice (some ⟨gr, 0, none⟩) n cap) n xs → ∀ (vs : List Value) (o : Nat), xs.length ≤ o → (w.setCells gr o vs).ownsRow B e k (.slice (some ⟨gr, 0, none⟩) n cap) n xs
  | _, h, [], _, _ => h
  | w, h, v :: vs, o, ho => by
    have h1 := (h.stored o v).1
    rw [List.set_eq_of_length_le ho] at h1
    exact own_setCs h1 vs (o + 1) (by omega)

theorem findS_hit (S : List Bs) (l : List (Bs × Bs)) (h : l.findIdx (inS S) < l.length) : inS S (l.getD (l.findIdx (inS S)) ([], [])) = true := by
  have := List.findIdx_getElem (w := h)
  simpa [List.getD, h] using this
theorem findS_before (S : List Bs) (l : List (Bs × Bs)) : ∀ f ∈ l.take (l.findIdx (inS S)), inS S f = false := by
  intro f hf
  rw [List.mem_take_iff_getElem] at hf
  obtain ⟨j, hj, rfl⟩ := hf
  have := List.not_of_lt_findIdx (p := inS S) (xs := l) (i := j) (by omega)
  simpa using this
theorem findS_none (S : List Bs) (l : List (Bs × Bs)) (h : ¬ l.findIdx (inS S) < l.length) : ∀ f ∈ l, inS S f = false := by
  have : l.findIdx (inS S) = l.length := by
    have := List.findIdx_le_length (p := inS S) (xs := l); omega
  rwa [List.findIdx_eq_length] at this

/-- what DeleteFunc has done when it has gone through j fields and kept i -/
def HalfS (wr : World) (B gr cap : Nat) (S : List Bs) (l : List (Bs × Bs)) (i j : Nat) : Prop :=
  ∃ K R : List (Bs × Bs), K = wipe S (l.take j) ∧ K.length = i ∧ R.length = j - i ∧ wr.ownsRow B 31 2 (.slice (some ⟨gr, 0, none⟩) l.length cap) l.length (fcells (K ++ R ++ l.drop j))

def WipePost (B : Nat) (S : List Bs) (l : List (Bs × Bs)) (w : World) (e : Ending) (w' : World) : Prop :=
  ∃ v', e = .returned v' ∧ w'.ownsRow B 31 2 v' (wipe S l).length (fcells (wipe S l)) ∧ Below B w w'

end Tk
end Go.Proofs.YthooghgiokgdhaaGreatDoor
namespace Go.Proofs.YthooghgiokgdhaaGreatDoor
open Go.RowKit
namespace Tk

/-- what an operation's run must be: this value, and S behind it; a call: the same of its contract -/
def SureRun (P : Program) (S : World → Prop) (v : Value) : Result Next → Prop
  | .ok (.value u) w' => u = v ∧ S w'
  | .ok .skip w' => v = undef ∧ S w'
  | .ok (.enter f args) w' => Calls P f args w' fun e w'' => e = .returned v ∧ S w''
  | _ => False
/-- operation i; the flag of S says whether operation k (the one that turns S) has come up -/
def Sure (P : Program) (ops : Array Oper) (S : Bool → World → Prop) (k i : Nat) (o : Oper) (v : Value) (a : Act) : Prop :=
  (Region.wanted o (yielded ops a.tmps) = true ∧ ∀ b w, S b w → ((i == k) = true → b = false) → SureRun P (S (b || i == k)) v ((execOp a.eval o).run P w)) ∨
  (Region.wanted o (yielded ops a.tmps) = false ∧ v = undef ∧ (i == k) = false)

section
variable {P : Program} {ops : Array Oper} {Q : Exit → Act → World → Prop} {md : Region.Mode} {S : Bool → World → Prop} {k : Nat}

theorem SureRun.wp {T : World → Prop} {o : Oper} {v : Value} {a : Act} {w : World} {K : Act → World → Prop} (h : SureRun P T v ((execOp a.eval o).run P w)) (hK : ∀ w', T w' → K (a.put o.dst v) w') : o.wp P a w K Q := by
  unfold Oper.wp
  generalize (execOp a.eval o).run P w = r at *
  cases r with
  | halt x w' => exact h.elim
  | ok n w' =>
    cases n with
    | value u => obtain ⟨rfl, hs⟩ := h; exact hK _ hs
    | skip => obtain ⟨rfl, hs⟩ := h; exact hK _ hs
    | enter f args =>
      refine Calls.mono h fun e w'' he => ?_
      obtain ⟨rfl, hs⟩ := he
      exact hK _ hs
    | _ => exact h.elim
theorem Sure.wpOp {i : Nat} {o : Oper} {v : Value} {a : Act} {b : Bool} (hi : ops[i]? = some o) (hy : Sure P ops S k i o v a) {K : Act → World → Prop} {w : World} (hS : S b w) (hb : (i == k) = true → b = false)
    (h : ∀ w', S (b || i == k) w' → K (a.put o.dst v) w') : wpOp P ops Q i K a w := by
  unfold Go.wpOp
  simp only [hi]
  rcases hy with ⟨hw, hv⟩ | ⟨hw, rfl, hk⟩
  · simp only [hw, if_true]
    exact .inl ((hv b w hS hb).wp h)
  · simp only [hw, Bool.false_eq_true, if_false]
    exact h w (by rw [hk, Bool.or_false]; exact hS)
theorem Sure.of_same {i : Nat} {o : Oper} {v : Value} {a a' : Act} (hy : Sure P ops S k i o v a) (he : execOp a'.eval o = execOp a.eval o) (hw : Region.wanted o (yielded ops a'.tmps) = Region.wanted o (yielded ops a.tmps)) : Sure P ops S k i o v a' := by
  unfold Sure at *
  rw [he, hw]
  exact hy

/-- A walk in one order. -/
inductive Plan (P : Program) (md : Region.Mode) (ops : Array Oper) (Q : Exit → Act → World → Prop) (S : Bool → World → Prop) (k : Nat) : Nat → Array Bool → Act → Prop
  | fin {n : Nat} {listed : Array Bool} {a : Act} (hr : Region.ready md ops listed = []) (h : ∀ w, S (listed.getD k false) w → Q .normal a w) : Plan P md ops Q S k n listed a
  | step {n : Nat} {listed : Array Bool} {a : Act} {i : Nat} {oi : Oper} {v : Value} (hi : ops[i]? = some oi) (hr : i ∈ Region.ready md ops listed)
      (hfree : ∀ j oj, ops[j]? = some oj → j ≠ i → listed.getD j true = false → (∀ e ∈ oj.after, Region.binds md e = true → e.on ≠ i) → oi.apart ops oj = true)
      (hy : Sure P ops S k i oi v a) (h : Plan P md ops Q S k n (listed.setIfInBounds i true) (a.put oi.dst v)) : Plan P md ops Q S k (n + 1) listed a

theorem Plan.other (hsel : ∀ (j : Nat) (o : Oper) cs b, ops[j]? = some o → o.op ≠ .select cs b) {n : Nat} {listed : Array Bool} {a : Act} (h : Plan P md ops Q S k n listed a) :
    ∀ j, j ∈ Region.ready md ops listed → ∃ m oj v, n = m + 1 ∧ ops[j]? = some oj ∧ Sure P ops S k j oj v a ∧ Plan P md ops Q S k m (listed.setIfInBounds j true) (a.put oj.dst v) := by
  induction h with
  | fin hr h => intro j hj; rw [hr] at hj; cases hj
  | @step n listed a i oi v hi hr hfree hy h ih =>
    intro j hj
    by_cases hji : j = i
    · subst hji; exact ⟨n, oi, v, rfl, hi, hy, h⟩
    · obtain ⟨m, oj, u, rfl, hoj, hyj, hpl⟩ := ih j (ready_mono hj hji)
      obtain ⟨hjun, oj', hoj', hall⟩ := mem_ready.1 hj
      obtain rfl : oj' = oj := Option.some.inj (hoj'.symm.trans hoj)
      have hnot : ∀ e ∈ oj'.after, Region.binds md e = true → e.on ≠ i := fun e he hb heq => by
        have h1 := hall e he hb
        have h0 := (mem_ready.1 hr).1
        rw [heq] at h1
        rcases Nat.lt_or_ge i listed.size with h' | h'
        · simp [h'] at h0 h1; rw [h0] at h1; cases h1
        · simp [Array.getElem?_eq_none h'] at h1
      obtain ⟨a1, a2, a3⟩ := Oper.apart_spec (hfree j oj' hoj hji hjun hnot)
      have hfree' : ∀ k ok, ops[k]? = some ok → k ≠ i → (listed.setIfInBounds j true).getD k true = false →
          (∀ e ∈ ok.after, Region.binds md e = true → e.on ≠ i) → oi.apart ops ok = true := fun k ok hk hki hun hno => by
        refine hfree k ok hk hki ?_ hno
        by_cases hjk : j = k
        · subst hjk; exact hjun
        · rw [getD_set_ne true hjk] at hun; exact hun
      have hpl2 : Plan P md ops Q S k m ((listed.setIfInBounds j true).setIfInBounds i true) ((a.put oj'.dst u).put oi.dst v) := by
        rw [Array.setIfInBounds_comm _ _ hji, Act.put_comm a u v (fun d hd he => a2 d he hd)]
        exact hpl
      refine ⟨m + 1, oj', u, rfl, hoj, hyj.of_same (execOp_put oj' (fun cs b => hsel j oj' cs b hoj) a oi.dst v a1).symm (wanted_put oj' a oi.dst v a1).symm, ?_⟩
      exact Plan.step hi (ready_mono hr (Ne.symm hji)) hfree' (hy.of_same (execOp_put oi (fun cs b => hsel i oi cs b hi) a oj'.dst u a3) (wanted_put oi a oj'.dst u a3)) hpl2

theorem flag_set {listed : Array Bool} {j : Nat} (h : listed.getD j true = false) : (listed.setIfInBounds j true).getD k false = (listed.getD k false || j == k) := by
  by_cases e : j = k
  · subst e
    have hlt : j < listed.size := by
      rcases Nat.lt_or_ge j listed.size with h' | h'
      · exact h'
      · simp [Array.getElem?_eq_none h'] at h
    simp [hlt]
  · rw [getD_set_ne false e]; simp [e]
theorem plan_any (hsel : ∀ (j : Nat) (o : Oper) cs b, ops[j]? = some o → o.op ≠ .select cs b) : ∀ (n : Nat) (listed : Array Bool) (a : Act) (w : World), Plan P md ops Q S k n listed a → S (listed.getD k false) w → wpAny P md ops Q n listed a w := by
  intro n
  induction n with
  | zero =>
    intro listed a w h hS
    cases h with
    | fin hr h => exact ⟨hr, h w hS⟩
  | succ n ih =>
    intro listed a w h hS
    refine ⟨fun hr => ?_, fun j hj => ?_⟩
    · cases h with
      | fin _ h => exact h w hS
      | step _ hr2 => rw [hr] at hr2; cases hr2
    · obtain ⟨m, oj, v, hn, hoj, hy, hp⟩ := h.other hsel j hj
      obtain rfl : n = m := by omega
      have hun := (mem_ready.1 hj).1
      refine hy.wpOp hoj hS (fun e => ?_) fun w' hw' => ih _ _ w' hp (by rw [flag_set hun]; exact hw')
      have e2 : j = k := by simpa using e
      subst e2
      rcases Nat.lt_or_ge j listed.size with h' | h'
      · simpa [h'] using hun
      · simp [Array.getElem?_eq_none h']
end

section
variable {P : Program} {ops : Array Oper} {Q : Exit → Act → World → Prop} {S : Bool → World → Prop} {k : Nat}
/-- THE BEGINNING: S of the world behind the draw. -/
theorem wp_plan (S : Bool → World → Prop) (k : Nat) {id : Nat} {a : Act} {w : World} (hm : P.follows .mixedOrders = true) (hs : Region.noSelect ops = true) (hS : S false w.drew) (hk : (Array.replicate ops.size false).getD k false = false)
    (h : Plan P .any ops Q S k ops.size (Array.replicate ops.size false) a) : (Code.region id ops true).wp P Q a w :=
  wp_region_any hm (plan_any (Region.noSelect_spec hs) _ _ _ _ h (by rw [hk]; exact hS))
/-- NUMBER i NEXT. -/
theorem plan_take {n : Nat} {listed : Array Bool} {a : Act} {i : Nat} {oi : Oper} {v : Value} (hi : ops[i]? = some oi) (hf : Region.free .any ops listed i = true) (hr : (Region.ready .any ops listed).contains i = true)
    (hy : Sure P ops S k i oi v a) (h : Plan P .any ops Q S k n (listed.setIfInBounds i true) (a.put oi.dst v)) : Plan P .any ops Q S k (n + 1) listed a :=
  Plan.step hi (by simpa using hr) (Region.free_spec hi hf) hy h
/-- it yields a value and leaves the world -/
theorem plan_val {n : Nat} {listed : Array Bool} {a : Act} {i : Nat} {oi : Oper} {v : Value} (hi : ops[i]? = some oi) (hf : Region.free .any ops listed i = true) (hr : (Region.ready .any ops listed).contains i = true)
    (hk : (i == k) = false) (hw : Region.wanted oi (yielded ops a.tmps) = true) (hy : ∀ b w, S b w → (execOp a.eval oi).run P w = .ok (.value v) w)
    (h : Plan P .any ops Q S k n (listed.setIfInBounds i true) (a.put oi.dst v)) : Plan P .any ops Q S k (n + 1) listed a :=
  plan_take hi hf hr (.inl ⟨hw, fun b w hS _ => by rw [hy b w hS, hk, Bool.or_false]; exact ⟨rfl, hS⟩⟩) h
/-- it is guarded off -/
theorem plan_off {n : Nat} {listed : Array Bool} {a : Act} {i : Nat} {oi : Oper} (hi : ops[i]? = some oi) (hf : Region.free .any ops listed i = true) (hr : (Region.ready .any ops listed).contains i = true)
    (hk : (i == k) = false) (hw : Region.wanted oi (yielded ops a.tmps) = false) (h : Plan P .any ops Q S k n (listed.setIfInBounds i true) (a.put oi.dst undef)) : Plan P .any ops Q S k (n + 1) listed a :=
  plan_take hi hf hr (.inr ⟨hw, rfl, hk⟩) h
/-- a call -/
theorem plan_call {n : Nat} {listed : Array Bool} {a : Act} {i : Nat} {oi : Oper} {v : Value} (f : FuncId) (args : Array Value) (hi : ops[i]? = some oi) (hf : Region.free .any ops listed i = true) (hr : (Region.ready .any ops listed).contains i = true)
    (hk : (i == k) = false) (hw : Region.wanted oi (yielded ops a.tmps) = true) (he : ∀ w, (execOp a.eval oi).run P w = .ok (.enter f args) w) (hy : ∀ b w, S b w → Calls P f args w fun e w' => e = .returned v ∧ S b w')
    (h : Plan P .any ops Q S k n (listed.setIfInBounds i true) (a.put oi.dst v)) : Plan P .any ops Q S k (n + 1) listed a :=
  plan_take hi hf hr (.inl ⟨hw, fun b w hS _ => by rw [he w, hk, Bool.or_false]; exact hy b w hS⟩) h
/-- the store that turns S -/
theorem plan_store {n : Nat} {listed : Array Bool} {a : Act} {oi : Oper} (hi : ops[k]? = some oi) (hf : Region.free .any ops listed k = true) (hr : (Region.ready .any ops listed).contains k = true)
    (hw : Region.wanted oi (yielded ops a.tmps) = true) (hy : ∀ w, S false w → ∃ w', (execOp a.eval oi).run P w = .ok .skip w' ∧ S true w')
    (h : Plan P .any ops Q S k n (listed.setIfInBounds k true) (a.put oi.dst undef)) : Plan P .any ops Q S k (n + 1) listed a :=
  plan_take hi hf hr (.inl ⟨hw, fun b w hS hb => by
    obtain rfl := hb (by simp)
    obtain ⟨w', h1, h2⟩ := hy w hS
    rw [h1]
    refine ⟨rfl, ?_⟩
    simpa using h2⟩) h
end
end Tk
end Go.Proofs.YthooghgiokgdhaaGreatDoor
namespace Go.Proofs.YthooghgiokgdhaaGreatDoor
open Go.RowKit
namespace Tk

theorem gone_len (l : List (Bs × Bs)) : (hopL ++ (listF l cnB).map lowL).length ≤ 7 + sumF l := by
  have := listF_len cnB l
  rw [List.length_append, List.length_map]
  show 7 + _ ≤ _
  omega

/-- what a round of the copying loop keeps -/
def Cpy (B g gr cap : Nat) (K : List (Bs × Bs)) (f : Bs × Bs) (W w' : World) : Prop :=
  w'.ownsRow B 31 2 (.slice (some ⟨gr, 0, none⟩) K.length cap) K.length (fcells K) ∧ Below B W w' ∧ Two w' g 31 (.string (mkS f.1)) (.string (mkS f.2))

end Tk
end Go.Proofs.YthooghgiokgdhaaGreatDoor
namespace Go.Proofs.YthooghgiokgdhaaGreatDoor
open Go.RowKit
namespace Tk

theorem viaS_eq (minor : Int) (name : Bs) : (⟨#[49, 46]⟩ : ByteArray) ++ mkS (digI minor) ++ ⟨#[32]⟩ ++ mkS name = mkS (viaS minor name) := by
  rw [show (⟨#[49, 46]⟩ : ByteArray) = mkS [49, 46] from rfl, show (⟨#[32]⟩ : ByteArray) = mkS [32] from rfl, mkS_append, mkS_append, mkS_append]; rfl
theorem viaV_eq (j : Bs) (x : Bs) : mkS j ++ ⟨#[44, 32]⟩ ++ mkS x = mkS (j ++ [44, 32] ++ x) := by
  rw [show (⟨#[44, 32]⟩ : ByteArray) = mkS [44, 32] from rfl, mkS_append, mkS_append]

/-- what strconv.Itoa does -/
def ItoaAt (n : Int) (w : World) : Prop := Calls Tryz.prog 87 #[.int .i64 n] w fun e w' => e = .returned (.string (mkS (digI n))) ∧ Below w.heap.size w w'

end Tk
end Go.Proofs.YthooghgiokgdhaaGreatDoor
namespace Go.Proofs.YthooghgiokgdhaaGreatDoor
open Go.RowKit
namespace Tk

/-- a message's cells -/
def msgC (M T : ByteArray) (s : Int) (R : ByteArray) (mi : Int) (vf : Value) (B : ByteArray) (vt : Value) : Array Value := #[.string M, .string T, .int .i64 s, .string R, .int .i64 mi, vf, .string B, vt]
/-- block g is a variable with these cells -/
def Box (w : World) (g : Nat) (T : TypeId) (cs : Array Value) : Prop := w.heap[g]? = some (.cells cs T (0, 0))
theorem Box.new (w : World) (T : TypeId) (cs : Array Value) : Box (w.alloc (.cells cs T)) w.heap.size T cs := heap_alloc_last w _
theorem Box.lt {w : World} {g : Nat} {T : TypeId} {cs : Array Value} (h : Box w g T cs) : g < w.heap.size := (Array.getElem?_eq_some_iff.1 h).1
theorem Box.later {w w' : World} {g : Nat} {T : TypeId} {cs : Array Value} (h : Box w g T cs) (hb : Below w.heap.size w w') : Box w' g T cs := (hb.block g h.lt).trans h
theorem Box.cell {w : World} {g : Nat} {T : TypeId} {cs : Array Value} (h : Box w g T cs) (i : Nat) (v : Value) (hv : cs[i]? = some v) : w.cell? ⟨g, i, none⟩ = some v := by rw [Lib.cell_of_heap h]; exact hv

theorem sum_wipe (S : List Bs) : ∀ l : List (Bs × Bs), sumF (wipe S l) ≤ sumF l
  | [] => by simp [wipe, sumF]
  | f :: t => by
    have ih := sum_wipe S t
    have e : wipe S (f :: t) = (if inS S f then [] else [f]) ++ wipe S t := by unfold wipe; cases h : inS S f <;> simp [h]
    rw [e]
    cases inS S f
    · simp [sumF]; omega
    · simp [sumF]; omega
theorem sum_app : ∀ a b : List (Bs × Bs), sumF (a ++ b) = sumF a + sumF b
  | [], b => by simp [sumF]
  | f :: t, b => by rw [List.cons_append, sumF, sumF, sum_app t b]; omega
theorem sum_kept (m : Bs) (l : List (Bs × Bs)) : sumF (keptL m l) ≤ sumF l + 8 := by
  have h1 := sum_wipe (goneS [clB] l) l
  have h2 := sum_wipe (goneS [clB, exB] l) l
  unfold keptL hosL withL
  split
  · omega
  · split
    · omega
    · rw [sum_app]
      show _ + 8 ≤ _
      omega
theorem len_kept (m : Bs) (l : List (Bs × Bs)) : (keptL m l).length ≤ l.length + 1 := by
  have h1 := wipe_len (goneS [clB] l) l
  have h2 := wipe_len (goneS [clB, exB] l) l
  unfold keptL hosL withL
  split
  · omega
  · split
    · omega
    · simp; omega
theorem isFlds_alloc {w : World} {v : Value} {l : List (Bs × Bs)} (h : IsFlds w v l) (o : Obj) : IsFlds (w.alloc o) v l := isFlds_below h ((Below.refl _ _).alloc (Nat.le_refl _) _)
theorem below_alloc (w : World) (o : Obj) : Below w.heap.size w (w.alloc o) := (Below.refl _ _).alloc (Nat.le_refl _) _

theorem low_cls : lowL clsB = clsB := by decide
theorem low_kal : lowL kalB = kalB := by decide

end Tk
end Go.Proofs.YthooghgiokgdhaaGreatDoor
namespace Go.Proofs.YthooghgiokgdhaaGreatDoor
open Go.RowKit
namespace Tk

def tokB (l : Bs) : Bool := !l.isEmpty && allL 2 l
theorem wp_store_row {P : Program} {o : Oper} {a : Act} {w : World} {K : Act → World → Prop} {Q : Exit → Act → World → Prop} (ty : TypeId) (x y : Operand) (ho : o.op = .store ty x y)
    (g : Nat) (t : TypeId) (old cells : Array Value) (hx : a.eval x = .pointer (some ⟨g, 0, none⟩)) (hy : a.eval y = .agg cells) (hg : w.heap[g]? = some (.cells old t (0, 0))) (hi : (P.info? ty).map (·.size) = some cells.size)
    (hs : old.size = cells.size) (h1 : cells.all (·.oneCell') = true) (h : K (a.put o.dst undef) (w.setRow g cells)) : o.wp P a w K Q := by
  have hrun := run_storeVar_row (P := P) w g t ty old cells hg hi hs h1
  unfold Oper.wp
  simp [execOp, ho, hx, hy, Instr.storeAt, Instr.sureAddr, hrun, Result.andThen, Oper.upon]
  exact h
theorem step_store_row {P : Program} {ops : Array Oper} {o : Oper} {a : Act} {w : World} {K : Act → World → Prop} {Q : Exit → Act → World → Prop} {E : Prop} (hgd : o.guard = none) (ty : TypeId) (x y : Operand) (ho : o.op = .store ty x y)
    (g : Nat) (t : TypeId) (old cells : Array Value) (hx : a.eval x = .pointer (some ⟨g, 0, none⟩)) (hy : a.eval y = .agg cells) (hg : w.heap[g]? = some (.cells old t (0, 0))) (hi : (P.info? ty).map (·.size) = some cells.size)
    (hs : old.size = cells.size) (h1 : cells.all (·.oneCell') = true) (h : K (a.put o.dst undef) (w.setRow g cells)) : if Region.wanted o (yielded ops a.tmps) = true then o.wp P a w K Q else E := by
  have hw : Region.wanted o (yielded ops a.tmps) = true := by simp [Region.wanted, hgd]
  rw [if_pos hw]
  exact wp_store_row ty x y ho g t old cells hx hy hg hi hs h1 h
theorem wpList_store_row {P : Program} {ops : Array Oper} {rest : List Oper} {o : Oper} {a : Act} {w : World} {Q : Exit → Act → World → Prop} (hgd : o.guard = none) (ty : TypeId) (x y : Operand) (ho : o.op = .store ty x y)
    (g : Nat) (t : TypeId) (old cells : Array Value) (hx : a.eval x = .pointer (some ⟨g, 0, none⟩)) (hy : a.eval y = .agg cells) (hg : w.heap[g]? = some (.cells old t (0, 0))) (hi : (P.info? ty).map (·.size) = some cells.size)
    (hs : old.size = cells.size) (h1 : cells.all (·.oneCell') = true) (h : wpList P ops Q rest (a.put o.dst undef) (w.setRow g cells)) : wpList P ops Q (o :: rest) a w :=
  wpList_plain hgd fun _ hK => wp_store_row ty x y ho g t old cells hx hy hg hi hs h1 (hK _ _ h)
theorem results_two {P : Program} {fn : Func} {p q : Tmp} {ty : TypeId} (h : fn.results = #[.cell p ty, .tmp q]) (tmps : Array Value) (w : World) (g : Nat) (t : TypeId) (cs : Array Value) (fr : Nat × Nat) (d : TypeDesc) (v2 : Value)
    (hp : tmps.getD p undef = .pointer (some ⟨g, 0, none⟩)) (hg : w.heap[g]? = some (.cells cs t fr))
    (hu : P.underlying ty = some d) (hd : (match d with | .struct _ | .array _ _ => true | _ => false) = true) (hi : (P.info? ty).map (·.size) = some cs.size) (hq : tmps.getD q undef = v2) :
    (results fn tmps).run P w = .ok (.tuple #[.agg cs, v2]) w := by
  subst hq
  have hp' : tmps[p]?.getD undef = .pointer (some ⟨g, 0, none⟩) := by simpa using hp
  simp [results, h, hp', asAddr, run_loadVar_row w g t ty cs fr d hg hu hd hi]
theorem Box.row {w : World} {g : Nat} {T : TypeId} {old cs : Array Value} (h : Box w g T old) : Box (w.setRow g cs) g T cs := setRow_heap w g old cs T (0, 0) h

theorem own_row {w : World} {B g : Nat} {v : Value} {n k : Nat} {xs : List Value} {e T : TypeId} {old cs : Array Value} (h : w.ownsRow B e k v n xs) (hb : Box w g T old) (hT : T ≠ e) : (w.setRow g cs).ownsRow B e k v n xs := by
  refine ⟨h.1, ?_⟩
  rcases h.2 with h2 | ⟨gr, cap, cur, hv, hge, hg, h2⟩
  · exact .inl h2
  · refine .inr ⟨gr, cap, cur, hv, hge, ?_, h2⟩
    rw [setRow_other _ _ _ _ (fun e2 => ?_)]
    · exact hg
    · subst e2
      have e3 := hg.symm.trans hb
      injection e3 with e3
      injection e3 with _ e4 _
      exact hT e4.symm

/-- what Forward answers -/
def FwPost (M T : ByteArray) (s : Int) (R : ByteArray) (mi : Int) (B : ByteArray) (l : List (Bs × Bs)) (N : Bs) (w : World) (e : Ending) (w' : World) : Prop :=
  Below w.heap.size w w' ∧ if tokB N = true then ∃ v', e = .returned (.tuple #[.agg (msgC M T s R 1 v' B (.slice none 0 0)), .int .i64 0]) ∧ w'.ownsRow w.heap.size 31 2 v' (forwL (bs M) l mi N).length (fcells (forwL (bs M) l mi N))
    else e = .returned (.tuple #[.agg (msgC ⟨#[]⟩ ⟨#[]⟩ 0 ⟨#[]⟩ 0 (.slice none 0 0) ⟨#[]⟩ (.slice none 0 0)), .int .i64 4])

end Tk
end Go.Proofs.YthooghgiokgdhaaGreatDoor
namespace Go.Proofs.YthooghgiokgdhaaGreatDoor
open Go.RowKit
namespace Tk

def lightT (l : List (Bs × Bs)) : Bool := decide (l.length ≤ 10) && lfGo 300 0 l
theorem lightT_parts (l : List (Bs × Bs)) (h : lightT l = true) : l.length ≤ 10 ∧ sumF l ≤ 340 := by
  unfold lightT at h
  rw [Bool.and_eq_true, decide_eq_true_eq] at h
  have := lfGo_sum 300 l 0 (by omega) h.2
  exact ⟨h.1, by omega⟩

set_option maxHeartbeats 2000000 in
set_option maxRecDepth 100000 in
theorem lightTen_any (v : Value) (l : List (Bs × Bs)) (w : World) (hs : IsFlds w v l) (hz : ∀ f ∈ l, f.1.length ≤ 140737488351232 ∧ f.2.length ≤ 140737488351232) (hl : l.length ≤ 140737488351232) :
    Calls Tryz.prog 113 #[v, .int .i64 10, .int .i64 300] w fun e w' => e = .returned (.bool (lightT l)) ∧ ∃ n, w' = w.drewN n := by
  obtain ⟨a, c, rfl, hcap, hc⟩ := hs
  have HC := Lib.hid hc
  have HZ := Lib.hid hz
  clear hc hz
  by_cases h20 : 10 < l.length
  · have fin : lightT l = false := by unfold lightT; rw [decide_eq_false (by omega)]; rfl
    have HF := Lib.hid fin
    have h' : (10 : Int) < (l.length : Int) := by omega
    clear fin
    go_enter Tryz.func113, Tryz.ntmps113
    go_wp2_with fail
    go_ret
    exact ⟨by rw [HF.out]; rfl, 0, rfl⟩
  · have fin : lightT l = lfGo 300 0 l := by unfold lightT; rw [decide_eq_true (by omega)]; rfl
    have HF := Lib.hid fin
    have h' : ¬ (10 : Int) < (l.length : Int) := by omega
    clear fin
    go_enter Tryz.func113, Tryz.ntmps113
    go_wp2_with fail
    go_loopw [7, 8] (fun vn vi wr => ∃ (i n m : Nat), i ≤ l.length ∧ n ≤ 300 ∧ vi = .int .i64 i ∧ vn = .int .i64 n ∧ wr = w.drewN m ∧ Hid (lightT l = lfGo 300 n (l.drop i))) (fun _ vi _ => l.length - (RowKit.intOf vi).toNat)
    case atStart => exact ⟨0, 0, 0, by omega, by omega, rfl, rfl, rfl, HF.out⟩
    case round =>
      obtain ⟨i, n, m, hi, hn, rfl, rfl, rfl, hd⟩ := hrel
      by_cases hlt : i < l.length
      · obtain ⟨b, o, rfl, hc0, hc1⟩ := HC.out i (l.getD i ([], [])) (by simp [List.getD, hlt])
        obtain ⟨z0, z1⟩ := HZ.out (l.getD i ([], [])) (by simp [List.getD, hlt])
        have hdr : l.drop i = l.getD i ([], []) :: l.drop (i + 1) := by rw [List.drop_eq_getElem_cons hlt]; simp [List.getD, hlt]
        have HD := Lib.hid hdr
        clear hdr
        generalize l.getD i ([], []) = f at *
        obtain ⟨x, y⟩ := f
        simp only at z0 z1 hc0 hc1
        have s0 := size_mkS x
        have s1 := size_mkS y
        have HS0 := Lib.hid s0
        have HS1 := Lib.hid s1
        have y0 : (mkS x).size ≤ 140737488351232 := by omega
        have y1 : (mkS y).size ≤ 140737488351232 := by omega
        clear s0 s1 z0 z1
        have hb0 : (0 : Int) ≤ (i : Int) := by omega
        have hb1 : (i : Int) < (l.length : Int) := by omega
        by_cases hb : 300 < n + (mkS x).size + (mkS y).size
        · have fin : lightT l = false := by
            rw [hd.out, HD.out, lfGo, if_pos (by rw [← HS0.out, ← HS1.out]; exact hb)]
          have HF2 := Lib.hid fin
          have hb' : (300 : Int) < (n : Int) + ((mkS x).size : Int) + ((mkS y).size : Int) := by omega
          clear fin HF HD hd
          generalize mkS x = s at *
          generalize mkS y = t at *
          have w1 : IntKind.i64.wrap ((n : Int) + (s.size : Int)) = (n : Int) + (s.size : Int) := IntWalk.i64_in _ (by omega)
          have w2 : IntKind.i64.wrap ((n : Int) + (s.size : Int) + (t.size : Int)) = (n : Int) + (s.size : Int) + (t.size : Int) := IntWalk.i64_in _ (by omega)
          go_wp2_with fail
          go_quiet (fail)
          clear w1 w2
          go_wp2_with fail
          go_ret
          exact ⟨by rw [HF2.out]; rfl, _, rfl⟩
        · have nx : lightT l = lfGo 300 (n + (mkS x).size + (mkS y).size) (l.drop (i + 1)) := by
            rw [hd.out, HD.out, lfGo, if_neg (by rw [← HS0.out, ← HS1.out]; exact hb), HS0.out, HS1.out]
          have HN := Lib.hid nx
          have hb' : ¬ (300 : Int) < (n : Int) + ((mkS x).size : Int) + ((mkS y).size : Int) := by omega
          clear nx HF HD hd
          generalize mkS x = s at *
          generalize mkS y = t at *
          have w1 : IntKind.i64.wrap ((n : Int) + (s.size : Int)) = (n : Int) + (s.size : Int) := IntWalk.i64_in _ (by omega)
          have w2 : IntKind.i64.wrap ((n : Int) + (s.size : Int) + (t.size : Int)) = (n : Int) + (s.size : Int) + (t.size : Int) := IntWalk.i64_in _ (by omega)
          go_wp2_with fail
          go_quiet (fail)
          clear w1 w2
          go_wp2_with fail
          exact ⟨⟨i + 1, n + s.size + t.size, _, by omega, by omega, by go_num, by go_num, rfl, HN⟩, by simp [RowKit.intOf]; omega⟩
      · have fin : lightT l = true := by rw [hd.out, List.drop_eq_nil_of_le (by omega)]; rfl
        have HF2 := Lib.hid fin
        clear fin
        go_wp2_with fail
        go_ret
        exact ⟨by rw [HF2.out]; rfl, _, rfl⟩

end Tk
end Go.Proofs.YthooghgiokgdhaaGreatDoor
namespace Go.Proofs.YthooghgiokgdhaaGreatDoor
open Go.RowKit
namespace Tk

theorem field_neq (W : World) (a b : ByteArray) : (binOp .neq 31 (.agg #[.string a, .string b]) (.agg #[.string a, .string b])).run Tryz.prog W = .ok (.bool false) W := by
  rw [run_neq_struct, run_equalIn_agg _ _ _ _ _ (by simp [Program.fieldsOf, Tryz.underlying31]) noStand]
  simp [Program.fieldsOf, Tryz.underlying31, Op.eqFields, go_sem]

end Tk
end Go.Proofs.YthooghgiokgdhaaGreatDoor
namespace Go.Proofs.YthooghgiokgdhaaGreatDoor
namespace Tk

theorem spl_plain : ∀ (l cur : Bs), (∀ c ∈ l, c ≠ 44 ∧ c ≠ 34) → spl 0 cur l = [cur ++ l]
  | [], cur, _ => by simp [spl]
  | c :: t, cur, h => by
    have hc := h c (by simp)
    rw [spl, if_neg hc.1, if_neg hc.2, spl_plain t (cur ++ [c]) fun d hd => h d (by simp [hd])]
    simp
theorem trim_as (l : Bs) (h : ∀ c ∈ l, c ≠ 32 ∧ c ≠ 9) : trimL l = l := by
  have dw : ∀ l : Bs, (∀ c ∈ l, c ≠ 32 ∧ c ≠ 9) → l.dropWhile (fun b => [32, 9].contains b) = l := by
    intro l h
    cases l with
    | nil => rfl
    | cons c t =>
      have hc := h c (by simp)
      rw [List.dropWhile_cons, if_neg (by simp [hc.1, hc.2])]
  unfold trimL Lib.trimS Lib.trimLeftS Lib.trimRightS
  rw [dw l.reverse (fun c hc => h c (by simpa using hc)), List.reverse_reverse, dw l h]
theorem trim_front (l : Bs) (h : ∀ c ∈ l, c ≠ 32 ∧ c ≠ 9) : trimL (32 :: l) = l := by
  have dw : ∀ l : Bs, (∀ c ∈ l, c ≠ 32 ∧ c ≠ 9) → l.dropWhile (fun b => [32, 9].contains b) = l := by
    intro l h
    cases l with
    | nil => rfl
    | cons c t =>
      have hc := h c (by simp)
      rw [List.dropWhile_cons, if_neg (by simp [hc.1, hc.2])]
  unfold trimL Lib.trimS Lib.trimLeftS Lib.trimRightS
  cases l with
  | nil => rfl
  | cons a t =>
    have hlast : ((32 :: a :: t).reverse).dropWhile (fun b => [32, 9].contains b) = (32 :: a :: t).reverse := by
      have e : (32 :: a :: t).reverse = (a :: t).reverse ++ [32] := by simp
      rw [e]
      cases hr : (a :: t).reverse with
      | nil => simp at hr
      | cons z r =>
        have hz := h z (by rw [← List.mem_reverse, hr]; simp)
        rw [List.cons_append, List.dropWhile_cons, if_neg (by simp [hz.1, hz.2])]
    rw [hlast, List.reverse_reverse, List.dropWhile_cons, if_pos (by decide), dw _ h]
theorem tok_char (c : UInt8) (h : 2 ≤ kindOf c.toNat) : c ≠ 44 ∧ c ≠ 34 ∧ c ≠ 32 ∧ c ≠ 9 := by
  refine ⟨?_, ?_, ?_, ?_⟩ <;> (rintro rfl; revert h; decide)
/-- q and one more name -/
theorem split_more (n : Bs) (h0 : n ≠ []) (h : allL 2 n = true) : splitL ([113, 44, 32] ++ n) = [[113], n] := by
  have hc : ∀ c ∈ n, c ≠ 44 ∧ c ≠ 34 ∧ c ≠ 32 ∧ c ≠ 9 := by
    intro c hc
    unfold allL at h
    rw [List.all_eq_true] at h
    exact tok_char c (of_decide_eq_true (h c hc))
  have e : spl 0 [] ([113, 44, 32] ++ n) = [[113], 32 :: n] := by
    show spl 0 [] (113 :: 44 :: 32 :: n) = _
    rw [spl, if_neg (by decide), if_neg (by decide), spl, if_pos rfl, spl_plain _ _ (by
      intro c hx
      rcases List.mem_cons.1 hx with rfl | hx
      · decide
      · exact ⟨(hc c hx).1, (hc c hx).2.1⟩)]
    rfl
  unfold splitL
  rw [e, parts_cons, parts_one, trim_front n fun c hx => ⟨(hc c hx).2.2.1, (hc c hx).2.2.2⟩, show trimL [113] = [113] by decide]
  unfold addP
  rw [if_neg (by decide), if_neg h0]; rfl
def qB : Bs := [113]
/-- Connection, in small letters -/
def cnL : Bs := [99, 111, 110, 110, 101, 99, 116, 105, 111, 110]
theorem strip_named (l : List (Bs × Bs)) (n : Bs) (h0 : n ≠ []) (h : allL 2 n = true) : stripL (l ++ [(cnL, [113, 44, 32] ++ n)]) = delF qB (delF n (stripL l)) := by
  rw [strip_more l cnL _ [[113], n] (by decide) (split_more n h0 h), del_wipe, del_wipe, wipe_wipe]
  apply wipe_congr
  intro x
  simp [qB, or_comm]

/-- the way that was taken: the first i names -/
def wayB (names : List Bs) : Nat → Bs
  | 0 => []
  | i + 1 => (if i = 0 then [] else wayB names i ++ [44, 32]) ++ viaS ((i % 2 : Nat) : Int) (names.getD i [])
def wayF (names : List Bs) (i : Nat) : List (Bs × Bs) := if i = 0 then [] else [(viB, wayB names i)]
theorem way_step (names : List Bs) (i : Nat) : viaL (wayF names i) ((i % 2 : Nat) : Int) (names.getD i []) = wayF names (i + 1) := by
  unfold viaL viaV wayF
  by_cases h : i = 0
  · subst h
    rfl
  · have e : allF [(viB, wayB names i)] viB = [wayB names i] := by rw [allF_cons, isN_self]; rfl
    rw [if_neg h, if_neg (Nat.succ_ne_zero i), wayB, if_neg h, e, if_pos (by simp), joinB_one]
    unfold setF
    rw [show List.findIdx (isN viB) [(viB, wayB names i)] = 0 by rw [List.findIdx_cons, isN_self]; rfl]
    rfl
theorem way_get (names : List Bs) (i : Nat) : joinB (allF (wayF names i) viB) = wayB names i := by
  unfold wayF
  by_cases h : i = 0
  · subst h; rfl
  · rw [if_neg h, show allF [(viB, wayB names i)] viB = [wayB names i] by rw [allF_cons, isN_self]; rfl, joinB_one]
theorem way_len (names : List Bs) (i : Nat) : (wayF names i).length = min 1 i := by
  unfold wayF
  by_cases h : i = 0
  · subst h; rfl
  · rw [if_neg h]; simp; omega
theorem dig_small (i : Nat) : digI ((i % 2 : Nat) : Int) = [UInt8.ofNat (48 + i % 2)] := by
  unfold digI
  rw [Lib.itoa_nonneg, Lib.decDigits_one (by omega)]
theorem viaS_len (i : Nat) (n : Bs) : (viaS ((i % 2 : Nat) : Int) n).length = n.length + 4 := by
  unfold viaS
  rw [dig_small]; simp
theorem way_size (names : List Bs) (b : Nat) (h : ∀ x ∈ names, x.length ≤ b) : ∀ i, (wayB names i).length ≤ i * (b + 6)
  | 0 => by simp [wayB]
  | i + 1 => by
    have ih := way_size names b h i
    have hx : (names.getD i []).length ≤ b := by
      by_cases hi : i < names.length
      · exact h _ (by simp [List.getD, hi])
      · simp [List.getD, hi]
    have hm : (i + 1) * (b + 6) = i * (b + 6) + (b + 6) := Nat.succ_mul _ _
    rw [wayB, List.length_append, viaS_len, hm]
    generalize names.getD i [] = n at *
    generalize i * (b + 6) = z at *
    split
    · rw [List.length_nil]; omega
    · rw [List.length_append, List.length_cons, List.length_cons, List.length_nil]; omega
end Tk
end Go.Proofs.YthooghgiokgdhaaGreatDoor
