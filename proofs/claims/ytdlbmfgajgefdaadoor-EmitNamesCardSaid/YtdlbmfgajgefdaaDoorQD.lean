/- Ord HopB HopC HopD FrmA FrmB FrmC EmA ChkM ChkN, put together. -/
import Derived.Test.YtdlbmfgajgefdaaDoorQA
import Derived.Deep.RegionHeld3
import Derived.Test.YtdlbmfgajgefdaaDoorQC
import Derived.Test.YtdlbmfgajgefdaaDoorQB
import Derived.Laws.Tables
import Derived.Laws.CopyOwn
import Derived.BigQuiet
import Derived.Laws.BytesString
import Derived.WalkSmall
namespace Go.Proofs.YtdlbmfgajgefdaaDoor
open Go.RowKit
namespace Tk

/-- what an operation's run must be: this value, and S behind it; a call: the same of its contract -/
def SureRun (P : Program) (S : World → Prop) (v : Value) : Result Next → Prop
  | .ok (.value u) w' => u = v ∧ S w'
  | .ok .skip w' => v = undef ∧ S w'
  | .ok (.enter f args) w' => Calls P f args w' fun e w'' => e = .returned v ∧ S w''
  | _ => False
/-- operation i; the flag of S says whether operation k (the one that turns S) has come up -/
def Sure (P : Program) (ops : Array Oper) (S : Bool → World → Prop) (k i : Nat) (o : Oper) (v : Value) (a : Act) : Prop :=
  (Region.wanted o (yielded ops a.tmps) = true ∧ ∀ b w, S b w → ((i == k) = true → b = false) → SureRun P (S (b || i == k)) v ((execOp a.eval o).run P w)) ∨
  (Region.wanted o (yielded ops a.tmps) = false ∧ v = undef ∧ (i == k) = false)

section
variable {P : Program} {ops : Array Oper} {Q : Exit → Act → World → Prop} {md : Region.Mode} {S : Bool → World → Prop} {k : Nat}

theorem SureRun.wp {T : World → Prop} {o : Oper} {v : Value} {a : Act} {w : World} {K : Act → World → Prop} (h : SureRun P T v ((execOp a.eval o).run P w)) (hK : ∀ w', T w' → K (a.put o.dst v) w') : o.wp P a w K Q := by
  unfold Oper.wp
  generalize (execOp a.eval o).run P w = r at *
  cases r with
  | halt x w' => exact h.elim
  | ok n w' =>
    cases n with
    | value u => obtain ⟨rfl, hs⟩ := h; exact hK _ hs
    | skip => obtain ⟨rfl, hs⟩ := h; exact hK _ hs
    | enter f args =>
      refine Calls.mono h fun e w'' he => ?_
      obtain ⟨rfl, hs⟩ := he
      exact hK _ hs
    | _ => exact h.elim
theorem Sure.wpOp {i : Nat} {o : Oper} {v : Value} {a : Act} {b : Bool} (hi : ops[i]? = some o) (hy : Sure P ops S k i o v a) {K : Act → World → Prop} {w : World} (hS : S b w) (hb : (i == k) = true → b = false)
    (h : ∀ w', S (b || i == k) w' → K (a.put o.dst v) w') : wpOp P ops Q i K a w := by
  unfold Go.wpOp
  simp only [hi]
  rcases hy with ⟨hw, hv⟩ | ⟨hw, rfl, hk⟩
  · simp only [hw, if_true]
    exact .inl ((hv b w hS hb).wp h)
  · simp only [hw, Bool.false_eq_true, if_false]
    exact h w (by rw [hk, Bool.or_false]; exact hS)
theorem Sure.of_same {i : Nat} {o : Oper} {v : Value} {a a' : Act} (hy : Sure P ops S k i o v a) (he : execOp a'.eval o = execOp a.eval o) (hw : Region.wanted o (yielded ops a'.tmps) = Region.wanted o (yielded ops a.tmps)) : Sure P ops S k i o v a' := by
  unfold Sure at *
  rw [he, hw]
  exact hy

/-- A walk in one order. -/
inductive Plan (P : Program) (md : Region.Mode) (ops : Array Oper) (Q : Exit → Act → World → Prop) (S : Bool → World → Prop) (k : Nat) : Nat → Array Bool → Act → Prop
  | fin {n : Nat} {listed : Array Bool} {a : Act} (hr : Region.ready md ops listed = []) (h : ∀ w, S (listed.getD k false) w → Q .normal a w) : Plan P md ops Q S k n listed a
  | step {n : Nat} {listed : Array Bool} {a : Act} {i : Nat} {oi : Oper} {v : Value} (hi : ops[i]? = some oi) (hr : i ∈ Region.ready md ops listed)
      (hfree : ∀ j oj, ops[j]? = some oj → j ≠ i → listed.getD j true = false → (∀ e ∈ oj.after, Region.binds md e = true → e.on ≠ i) → oi.apart ops oj = true)
      (hy : Sure P ops S k i oi v a) (h : Plan P md ops Q S k n (listed.setIfInBounds i true) (a.put oi.dst v)) : Plan P md ops Q S k (n + 1) listed a

theorem Plan.other (hsel : ∀ (j : Nat) (o : Oper) cs b, ops[j]? = some o → o.op ≠ .select cs b) {n : Nat} {listed : Array Bool} {a : Act} (h : Plan P md ops Q S k n listed a) :
    ∀ j, j ∈ Region.ready md ops listed → ∃ m oj v, n = m + 1 ∧ ops[j]? = some oj ∧ Sure P ops S k j oj v a ∧ Plan P md ops Q S k m (listed.setIfInBounds j true) (a.put oj.dst v) := by
  induction h with
  | fin hr h => intro j hj; rw [hr] at hj; cases hj
  | @step n listed a i oi v hi hr hfree hy h ih =>
    intro j hj
    by_cases hji : j = i
    · subst hji; exact ⟨n, oi, v, rfl, hi, hy, h⟩
    · obtain ⟨m, oj, u, rfl, hoj, hyj, hpl⟩ := ih j (ready_mono hj hji)
      obtain ⟨hjun, oj', hoj', hall⟩ := mem_ready.1 hj
      obtain rfl : oj' = oj := Option.some.inj (hoj'.symm.trans hoj)
      have hnot : ∀ e ∈ oj'.after, Region.binds md e = true → e.on ≠ i := fun e he hb heq => by
        have h1 := hall e he hb
        have h0 := (mem_ready.1 hr).1
        rw [heq] at h1
        rcases Nat.lt_or_ge i listed.size with h' | h'
        · simp [h'] at h0 h1; rw [h0] at h1; cases h1
        · simp [Array.getElem?_eq_none h'] at h1
      obtain ⟨a1, a2, a3⟩ := Oper.apart_spec (hfree j oj' hoj hji hjun hnot)
      have hfree' : ∀ k ok, ops[k]? = some ok → k ≠ i → (listed.setIfInBounds j true).getD k true = false →
          (∀ e ∈ ok.after, Region.binds md e = true → e.on ≠ i) → oi.apart ops ok = true := fun k ok hk hki hun hno => by
        refine hfree k ok hk hki ?_ hno
        by_cases hjk : j = k
        · subst hjk; exact hjun
        · rw [getD_set_ne true hjk] at hun; exact hun
      have hpl2 : Plan P md ops Q S k m ((listed.setIfInBounds j true).setIfInBounds i true) ((a.put oj'.dst u).put oi.dst v) := by
        rw [Array.setIfInBounds_comm _ _ hji, Act.put_comm a u v (fun d hd he => a2 d he hd)]
        exact hpl
      refine ⟨m + 1, oj', u, rfl, hoj, hyj.of_same (execOp_put oj' (fun cs b => hsel j oj' cs b hoj) a oi.dst v a1).symm (wanted_put oj' a oi.dst v a1).symm, ?_⟩
      exact Plan.step hi (ready_mono hr (Ne.symm hji)) hfree' (hy.of_same (execOp_put oi (fun cs b => hsel i oi cs b hi) a oj'.dst u a3) (wanted_put oi a oj'.dst u a3)) hpl2

theorem flag_set {listed : Array Bool} {j : Nat} (h : listed.getD j true = false) : (listed.setIfInBounds j true).getD k false = (listed.getD k false || j == k) := by
  by_cases e : j = k
  · subst e
    have hlt : j < listed.size := by
      rcases Nat.lt_or_ge j listed.size with h' | h'
      · exact h'
      · simp [Array.getElem?_eq_none h'] at h
    simp [hlt]
  · rw [getD_set_ne false e]; simp [e]
theorem plan_any (hsel : ∀ (j : Nat) (o : Oper) cs b, ops[j]? = some o → o.op ≠ .select cs b) : ∀ (n : Nat) (listed : Array Bool) (a : Act) (w : World), Plan P md ops Q S k n listed a → S (listed.getD k false) w → wpAny P md ops Q n listed a w := by
  intro n
  induction n with
  | zero =>
    intro listed a w h hS
    cases h with
    | fin hr h => exact ⟨hr, h w hS⟩
  | succ n ih =>
    intro listed a w h hS
    refine ⟨fun hr => ?_, fun j hj => ?_⟩
    · cases h with
      | fin _ h => exact h w hS
      | step _ hr2 => rw [hr] at hr2; cases hr2
    · obtain ⟨m, oj, v, hn, hoj, hy, hp⟩ := h.other hsel j hj
      obtain rfl : n = m := by omega
      have hun := (mem_ready.1 hj).1
      refine hy.wpOp hoj hS (fun e => ?_) fun w' hw' => ih _ _ w' hp (by rw [flag_set hun]; exact hw')
      have e2 : j = k := by simpa using e
      subst e2
      rcases Nat.lt_or_ge j listed.size with h' | h'
      · simpa [h'] using hun
      · simp [Array.getElem?_eq_none h']
end

section
variable {P : Program} {ops : Array Oper} {Q : Exit → Act → World → Prop} {S : Bool → World → Prop} {k : Nat}
/-- THE BEGINNING: S of the world behind the draw. -/
theorem wp_plan (S : Bool → World → Prop) (k : Nat) {id : Nat} {a : Act} {w : World} (hm : P.follows .mixedOrders = true) (hs : Region.noSelect ops = true) (hS : S false w.drew) (hk : (Array.replicate ops.size false).getD k false = false)
    (h : Plan P .any ops Q S k ops.size (Array.replicate ops.size false) a) : (Code.region id ops true).wp P Q a w :=
  wp_region_any hm (plan_any (Region.noSelect_spec hs) _ _ _ _ h (by rw [hk]; exact hS))
/-- NUMBER i NEXT. -/
theorem plan_take {n : Nat} {listed : Array Bool} {a : Act} {i : Nat} {oi : Oper} {v : Value} (hi : ops[i]? = some oi) (hf : Region.free .any ops listed i = true) (hr : (Region.ready .any ops listed).contains i = true)
    (hy : Sure P ops S k i oi v a) (h : Plan P .any ops Q S k n (listed.setIfInBounds i true) (a.put oi.dst v)) : Plan P .any ops Q S k (n + 1) listed a :=
  Plan.step hi (by simpa using hr) (Region.free_spec hi hf) hy h
/-- it yields a value and leaves the world -/
theorem plan_val {n : Nat} {listed : Array Bool} {a : Act} {i : Nat} {oi : Oper} {v : Value} (hi : ops[i]? = some oi) (hf : Region.free .any ops listed i = true) (hr : (Region.ready .any ops listed).contains i = true)
    (hk : (i == k) = false) (hw : Region.wanted oi (yielded ops a.tmps) = true) (hy : ∀ b w, S b w → (execOp a.eval oi).run P w = .ok (.value v) w)
    (h : Plan P .any ops Q S k n (listed.setIfInBounds i true) (a.put oi.dst v)) : Plan P .any ops Q S k (n + 1) listed a :=
  plan_take hi hf hr (.inl ⟨hw, fun b w hS _ => by rw [hy b w hS, hk, Bool.or_false]; exact ⟨rfl, hS⟩⟩) h
/-- it is guarded off -/
theorem plan_off {n : Nat} {listed : Array Bool} {a : Act} {i : Nat} {oi : Oper} (hi : ops[i]? = some oi) (hf : Region.free .any ops listed i = true) (hr : (Region.ready .any ops listed).contains i = true)
    (hk : (i == k) = false) (hw : Region.wanted oi (yielded ops a.tmps) = false) (h : Plan P .any ops Q S k n (listed.setIfInBounds i true) (a.put oi.dst undef)) : Plan P .any ops Q S k (n + 1) listed a :=
  plan_take hi hf hr (.inr ⟨hw, rfl, hk⟩) h
/-- a call -/
theorem plan_call {n : Nat} {listed : Array Bool} {a : Act} {i : Nat} {oi : Oper} {v : Value} (f : FuncId) (args : Array Value) (hi : ops[i]? = some oi) (hf : Region.free .any ops listed i = true) (hr : (Region.ready .any ops listed).contains i = true)
    (hk : (i == k) = false) (hw : Region.wanted oi (yielded ops a.tmps) = true) (he : ∀ w, (execOp a.eval oi).run P w = .ok (.enter f args) w) (hy : ∀ b w, S b w → Calls P f args w fun e w' => e = .returned v ∧ S b w')
    (h : Plan P .any ops Q S k n (listed.setIfInBounds i true) (a.put oi.dst v)) : Plan P .any ops Q S k (n + 1) listed a :=
  plan_take hi hf hr (.inl ⟨hw, fun b w hS _ => by rw [he w, hk, Bool.or_false]; exact hy b w hS⟩) h
/-- the store that turns S -/
theorem plan_store {n : Nat} {listed : Array Bool} {a : Act} {oi : Oper} (hi : ops[k]? = some oi) (hf : Region.free .any ops listed k = true) (hr : (Region.ready .any ops listed).contains k = true)
    (hw : Region.wanted oi (yielded ops a.tmps) = true) (hy : ∀ w, S false w → ∃ w', (execOp a.eval oi).run P w = .ok .skip w' ∧ S true w')
    (h : Plan P .any ops Q S k n (listed.setIfInBounds k true) (a.put oi.dst undef)) : Plan P .any ops Q S k (n + 1) listed a :=
  plan_take hi hf hr (.inl ⟨hw, fun b w hS hb => by
    obtain rfl := hb (by simp)
    obtain ⟨w', h1, h2⟩ := hy w hS
    rw [h1]
    refine ⟨rfl, ?_⟩
    simpa using h2⟩) h
end
end Tk
end Go.Proofs.YtdlbmfgajgefdaaDoor
namespace Go.Proofs.YtdlbmfgajgefdaaDoor
open Go.RowKit
namespace Tk

theorem gone_len (l : List (Bs × Bs)) : (hopL ++ (listF l cnB).map lowL).length ≤ 7 + sumF l := by
  have := listF_len cnB l
  rw [List.length_append, List.length_map]
  show 7 + _ ≤ _
  omega

/-- what a round of the copying loop keeps -/
def Cpy (B g gr cap : Nat) (K : List (Bs × Bs)) (f : Bs × Bs) (W w' : World) : Prop :=
  w'.ownsRow B 24 2 (.slice (some ⟨gr, 0, none⟩) K.length cap) K.length (fcells K) ∧ Below B W w' ∧ Two w' g 24 (.string (mkS f.1)) (.string (mkS f.2))

end Tk
end Go.Proofs.YtdlbmfgajgefdaaDoor
namespace Go.Proofs.YtdlbmfgajgefdaaDoor
open Go.RowKit
namespace Tk

theorem viaS_eq (minor : Int) (name : Bs) : (⟨#[49, 46]⟩ : ByteArray) ++ mkS (digI minor) ++ ⟨#[32]⟩ ++ mkS name = mkS (viaS minor name) := by
  rw [show (⟨#[49, 46]⟩ : ByteArray) = mkS [49, 46] from rfl, show (⟨#[32]⟩ : ByteArray) = mkS [32] from rfl, mkS_append, mkS_append, mkS_append]; rfl
theorem viaV_eq (j : Bs) (x : Bs) : mkS j ++ ⟨#[44, 32]⟩ ++ mkS x = mkS (j ++ [44, 32] ++ x) := by
  rw [show (⟨#[44, 32]⟩ : ByteArray) = mkS [44, 32] from rfl, mkS_append, mkS_append]

/-- what strconv.Itoa does -/
def ItoaAt (n : Int) (w : World) : Prop := Calls Tryd.prog 20 #[.int .i64 n] w fun e w' => e = .returned (.string (mkS (digI n))) ∧ Below w.heap.size w w'

end Tk
end Go.Proofs.YtdlbmfgajgefdaaDoor
namespace Go.Proofs.YtdlbmfgajgefdaaDoor
open Go.RowKit
namespace Tk

/-- a message's cells -/
def msgC (M T : ByteArray) (s : Int) (R : ByteArray) (mi : Int) (vf : Value) (B : ByteArray) (vt : Value) : Array Value := #[.string M, .string T, .int .i64 s, .string R, .int .i64 mi, vf, .string B, vt]
/-- block g is a variable with these cells -/
def Box (w : World) (g : Nat) (T : TypeId) (cs : Array Value) : Prop := w.heap[g]? = some (.cells cs T (0, 0))
theorem Box.new (w : World) (T : TypeId) (cs : Array Value) : Box (w.alloc (.cells cs T)) w.heap.size T cs := heap_alloc_last w _
theorem Box.lt {w : World} {g : Nat} {T : TypeId} {cs : Array Value} (h : Box w g T cs) : g < w.heap.size := (Array.getElem?_eq_some_iff.1 h).1
theorem Box.later {w w' : World} {g : Nat} {T : TypeId} {cs : Array Value} (h : Box w g T cs) (hb : Below w.heap.size w w') : Box w' g T cs := (hb.block g h.lt).trans h
theorem Box.cell {w : World} {g : Nat} {T : TypeId} {cs : Array Value} (h : Box w g T cs) (i : Nat) (v : Value) (hv : cs[i]? = some v) : w.cell? ⟨g, i, none⟩ = some v := by rw [Lib.cell_of_heap h]; exact hv

theorem sum_wipe (S : List Bs) : ∀ l : List (Bs × Bs), sumF (wipe S l) ≤ sumF l
  | [] => by simp [wipe, sumF]
  | f :: t => by
    have ih := sum_wipe S t
    have e : wipe S (f :: t) = (if inS S f then [] else [f]) ++ wipe S t := by unfold wipe; cases h : inS S f <;> simp [h]
    rw [e]
    cases inS S f
    · simp [sumF]; omega
    · simp [sumF]; omega
theorem sum_app : ∀ a b : List (Bs × Bs), sumF (a ++ b) = sumF a + sumF b
  | [], b => by simp [sumF]
  | f :: t, b => by rw [List.cons_append, sumF, sumF, sum_app t b]; omega
theorem sum_kept (m : Bs) (l : List (Bs × Bs)) : sumF (keptL m l) ≤ sumF l + 8 := by
  have h1 := sum_wipe (goneS [clB] l) l
  have h2 := sum_wipe (goneS [clB, exB] l) l
  unfold keptL hosL withL
  split
  · omega
  · split
    · omega
    · rw [sum_app]
      show _ + 8 ≤ _
      omega
theorem len_kept (m : Bs) (l : List (Bs × Bs)) : (keptL m l).length ≤ l.length + 1 := by
  have h1 := wipe_len (goneS [clB] l) l
  have h2 := wipe_len (goneS [clB, exB] l) l
  unfold keptL hosL withL
  split
  · omega
  · split
    · omega
    · simp; omega
theorem isFlds_alloc {w : World} {v : Value} {l : List (Bs × Bs)} (h : IsFlds w v l) (o : Obj) : IsFlds (w.alloc o) v l := isFlds_below h ((Below.refl _ _).alloc (Nat.le_refl _) _)
theorem below_alloc (w : World) (o : Obj) : Below w.heap.size w (w.alloc o) := (Below.refl _ _).alloc (Nat.le_refl _) _

theorem low_cls : lowL clsB = clsB := by decide
theorem low_kal : lowL kalB = kalB := by decide

end Tk
end Go.Proofs.YtdlbmfgajgefdaaDoor
namespace Go.Proofs.YtdlbmfgajgefdaaDoor
open Go.RowKit
namespace Tk

theorem results_tmp3' {fn : Func} {t u v : Tmp} (h : fn.results = #[.tmp t, .tmp u, .tmp v]) (tmps : Array Value) (P : Program) (w : World) :
    (results fn tmps).run P w = .ok (.tuple #[tmps.getD t undef, tmps.getD u undef, tmps.getD v undef]) w := by
  simp [results, h]
theorem retB3 {a b : Bool} (h : a = b) : Ending.returned (.bool a) = .returned (.bool b) := by rw [h]
set_option maxHeartbeats 2000000 in
theorem bare_any (m : ByteArray) (s : Int) (w : World) :
    Calls Tryd.prog 26 #[.string m, .int .i64 s] w fun e w' => e = .returned (.bool (bareB (bs m) s)) ∧ w = w' := by
  by_cases hH : bs m = [72, 69, 65, 68]
  · have x1 : (m.toList == [72, 69, 65, 68]) = true := by rw [toList_bs, hH]; rfl
    have HF : Hid (bareB (bs m) s = true) := by show bareB _ _ = true; unfold bareB; simp [hH]
    clear hH
    go_enter Tryd.func26, Tryd.ntmps26
    go_wp2_with fail
    go_ret
    exact ⟨by rw [HF.out]; rfl, rfl⟩
  · have x1 : (m.toList == [72, 69, 65, 68]) = false := by rw [toList_bs]; exact beq_eq_false_iff_ne.2 hH
    have hB : bareB (bs m) s = ((decide (100 ≤ s) && decide (s ≤ 199)) || decide (s = 204) || decide (s = 304) || (decide (bs m = [67, 79, 78, 78, 69, 67, 84]) && decide (200 ≤ s) && decide (s ≤ 299))) := by unfold bareB; simp [hH]
    have hC : bs m = [67, 79, 78, 78, 69, 67, 84] ∧ (m.toList == [67, 79, 78, 78, 69, 67, 84]) = true ∨ bs m ≠ [67, 79, 78, 78, 69, 67, 84] ∧ (m.toList == [67, 79, 78, 78, 69, 67, 84]) = false := by
      by_cases hc : bs m = [67, 79, 78, 78, 69, 67, 84]
      · exact .inl ⟨hc, by rw [toList_bs, hc]; rfl⟩
      · exact .inr ⟨hc, by rw [toList_bs]; exact beq_eq_false_iff_ne.2 hc⟩
    clear hH
    have e204 : s = 204 ∧ (s == 204) = true ∨ s ≠ 204 ∧ (s == 204) = false := by
      by_cases h : s = 204
      · exact .inl ⟨h, by rw [h]; rfl⟩
      · exact .inr ⟨h, beq_eq_false_iff_ne.2 h⟩
    have e304 : s = 304 ∧ (s == 304) = true ∨ s ≠ 304 ∧ (s == 304) = false := by
      by_cases h : s = 304
      · exact .inl ⟨h, by rw [h]; rfl⟩
      · exact .inr ⟨h, beq_eq_false_iff_ne.2 h⟩
    rcases e204 with ⟨h2, b2⟩ | ⟨h2, b2⟩ <;> rcases e304 with ⟨h3, b3⟩ | ⟨h3, b3⟩ <;> rcases hC with ⟨hc, bc⟩ | ⟨hc, bc⟩ <;> by_cases k0 : 100 ≤ s <;> by_cases k1 : s ≤ 199 <;> by_cases k2 : 200 ≤ s <;> by_cases k3 : s ≤ 299
    all_goals
      first
      | omega
      | (have HF := Lib.hid hB
         have H2 := Lib.hid h2
         have H3 := Lib.hid h3
         have HC := Lib.hid hc
         clear hB h2 h3 hc
         go_enter Tryd.func26, Tryd.ntmps26
         go_wp2_with fail
         go_ret
         have h2 := H2.out
         have h3 := H3.out
         have hc := HC.out
         exact ⟨retB3 (by rw [HF.out]; simp [h2, h3, hc] <;> omega), rfl⟩)

set_option maxHeartbeats 1000000 in
theorem fhas_any (v : Value) (l : List (Bs × Bs)) (name : Bs) (w : World) (hs : IsFlds w v l) (hz : sumF l ≤ 1000000) (hn : name.length ≤ 1099511627776) (hl : l.length ≤ 1048576) :
    Calls Tryd.prog 44 #[v, .string (mkS name)] w fun e w' => e = .returned (.bool (hasF l name)) ∧ Below w.heap.size w w' := by
  have HG := Lib.hid (fget_any v l name w hs (by omega) hn hl)
  have hh : hasF l name = decide (0 < (allF l name).length) := rfl
  rw [← hh] at HG
  obtain ⟨a, cap, rfl⟩ : ∃ a cap, v = .slice a l.length cap := by obtain ⟨a, c, h, -⟩ := hs; exact ⟨a, c, h⟩
  clear hs hz hh
  go_enter Tryd.func44, Tryd.ntmps44
  go_wp2_with fail
  refine HG.out.mono ?_
  rintro e w1 ⟨rfl, hb⟩
  have HB := Lib.hid hb
  clear hb
  go_wp2_with fail
  go_ret
  exact ⟨rfl, HB.out⟩

end Tk
end Go.Proofs.YtdlbmfgajgefdaaDoor
namespace Go.Proofs.YtdlbmfgajgefdaaDoor
open Go.RowKit
namespace Tk

/-- a block of one cell of the call's own -/
def One (w : World) (g : Nat) (T : TypeId) (a : Value) : Prop := w.heap[g]? = some (.cells #[a] T (0, 0))
theorem One.new (w : World) (T : TypeId) (a : Value) : One (w.alloc (.cells #[a] T)) w.heap.size T a := heap_alloc_last w _
theorem One.lt {w : World} {g : Nat} {T : TypeId} {a : Value} (h : One w g T a) : g < w.heap.size := (Array.getElem?_eq_some_iff.1 h).1
theorem One.c0 {w : World} {g : Nat} {T : TypeId} {a : Value} (h : One w g T a) : w.cell? ⟨g, 0, none⟩ = some a := by rw [Lib.cell_of_heap h]; rfl
theorem One.f0 {w : World} {g : Nat} {T : TypeId} {a : Value} (h : One w g T a) : w.frozen? ⟨g, 0, none⟩ = false := Lib.frozen_of_heap h 0

def LenPost (l : List (Bs × Bs)) (w : World) (e : Ending) (w' : World) : Prop := e = .returned (.tuple #[.int .i64 (lenN l : Nat), .bool (hasF l nmCL), .int .i64 (lenS l : Nat)]) ∧ Below w.heap.size w w'

theorem len_ret (l : List (Bs × Bs)) (n : Nat) (b : Bool) (s : Nat) (h1 : lenN l = n) (h2 : hasF l nmCL = b) (h3 : lenS l = s) : Ending.returned (.tuple #[.int .i64 (n : Int), .bool b, .int .i64 (s : Int)]) = .returned (.tuple #[.int .i64 (lenN l : Nat), .bool (hasF l nmCL), .int .i64 (lenS l : Nat)]) := by rw [h1, h2, h3]

set_option maxHeartbeats 8000000 in
set_option maxRecDepth 100000 in
theorem length_any (v : Value) (l : List (Bs × Bs)) (w : World) (hs : IsFlds w v l) (hz : sumF l ≤ 1000000) (hl : l.length ≤ 1048576) :
    Calls Tryd.prog 32 #[v] w (LenPost l w) := by
  have HH : Hid (∀ W, Below w.heap.size w W → Calls Tryd.prog 44 #[v, .string ⟨#[67, 111, 110, 116, 101, 110, 116, 45, 76, 101, 110, 103, 116, 104]⟩] W fun e w' => e = .returned (.bool (hasF l nmCL)) ∧ Below W.heap.size W w') := fun W hb => fhas_any v l nmCL W (isFlds_below hs hb) hz (by decide) hl
  have HLs : Hid (∀ W, Below w.heap.size w W → Calls Tryd.prog 45 #[v, .string ⟨#[67, 111, 110, 116, 101, 110, 116, 45, 76, 101, 110, 103, 116, 104]⟩] W (ListPost W.heap.size (listF l nmCL) W)) := fun W hb => flist_any v l nmCL W (isFlds_below hs hb) hz (by decide) hl
  unfold ListPost at HLs
  have HBad := Lib.hid (len_bad l)
  have HGood := Lib.hid (len_good l)
  have HEmp := Lib.hid (len_empty l)
  have HNone := Lib.hid (lenS_none l)
  have HPc := Lib.hid (fun p hp => Nat.le_trans (listF_piece nmCL l p hp) hz)
  have HHas := Lib.hid (list_has l nmCL)
  have hln := listF_len nmCL l
  have hlp : (listF l nmCL).length ≤ 1000000 := by omega
  have HRet := Lib.hid (len_ret l)
  unfold LenPost
  obtain ⟨a, cap, rfl⟩ : ∃ a cap, v = .slice a l.length cap := by obtain ⟨a, c, h, -⟩ := hs; exact ⟨a, c, h⟩
  clear hs hz hln
  generalize listF l nmCL = P at *
  go_enter Tryd.func32, Tryd.ntmps32
  go_wp2_with fail
  refine (HH.out _ (Below.refl _ _)).mono ?_
  rintro e w1 ⟨rfl, hb⟩
  have HB1 := Lib.hid hb
  clear hb
  go_wp2_with fail
  refine (HLs.out _ HB1.out).mono ?_
  rintro e w2 ⟨v2, rfl, ho, hb⟩
  have HB2 := Lib.hid (HB1.out.trans (hb.mono HB1.out.size))
  have HS := Lib.hid (isStrs_own ho)
  have HLt := Lib.hid (fun k e => (ho.lt k e).2)
  obtain ⟨a1, c1, rfl⟩ : ∃ a c, v2 = .slice a P.length c := by obtain ⟨a, c, h, -⟩ := isStrs_own ho; exact ⟨a, c, h⟩
  clear ho hb
  go_wp2_with fail
  go_loopw [4, 5, 15] (fun vs vf vi wr => ∃ i : Nat, i ≤ P.length ∧ vs = .int .i64 0 ∧ vi = .int .i64 i ∧ Hid (Below w2.heap.size w2 wr) ∧ ((i = 0 ∧ vf = .pointer none) ∨ (0 < i ∧ ∃ b, vf = .pointer (some ⟨b, 0, none⟩) ∧ Hid (b < wr.heap.size) ∧ Hid (wr.cell? ⟨b, 0, none⟩ = some (.int .i64 (firstN P : Nat))))) ∧ Hid (∀ p ∈ P.take i, isNum (firstN P) p = true)) (fun _ _ vi _ => P.length - (RowKit.intOf vi).toNat)
  case atStart => exact ⟨0, Nat.zero_le _, rfl, rfl, Below.refl _ _, .inl ⟨rfl, rfl⟩, fun p hp => by simp at hp⟩
  case round =>
    obtain ⟨i, hi, rfl, rfl, HB, hf, HA⟩ := hrel
    rename World => W
    by_cases hlt : i < P.length
    · obtain ⟨a', c', e', hc⟩ := isStrs_later HS.out HB.out HLt.out
      injection e' with e1 _ e2
      subst e1 e2
      obtain ⟨bx, o, rfl, hc⟩ := hc i (P.getD i []) (by simp [List.getD, hlt])
      have hmem : P.getD i [] ∈ P := by simp [List.getD, hlt]
      have hm := HPc.out (P.getD i []) hmem
      have htk : P.take (i + 1) = P.take i ++ [P.getD i []] := by rw [List.take_succ_eq_append_getElem hlt]; simp [List.getD, hlt]
      have hfirst : i = 0 → firstN P = (numL (P.getD i [])).1 := by
        intro e; subst e
        unfold firstN
        cases P with
        | nil => simp at hlt
        | cons p t => rfl
      have HBd := Lib.hid (HBad.out (P.getD i []) hmem)
      have HTK := Lib.hid htk
      have HFi := Lib.hid hfirst
      have hxl := numL_le (P.getD i [])
      clear htk hmem hfirst
      generalize P.getD i [] = x at *
      have hxz := size_mkS x
      have hnum := fun W : World => number_any (mkS x) W (by omega)
      rw [bs_mkS] at hnum
      have HNum := Lib.hid hnum
      have hisn : isNum (firstN P) x = (decide ((numL x).2 = 0) && decide ((numL x).1 = firstN P)) := rfl
      have HIs := Lib.hid hisn
      have g0 : (0 : Int) ≤ (i : Int) := by omega
      have g1 : (i : Int) < (P.length : Int) := by omega
      clear hnum hxz hisn
      generalize numL x = q at *
      obtain ⟨n, k⟩ := q
      simp only at hxl HNum HIs HFi
      have HN0 := Lib.hid (One.new W 2 (.int .i64 (n : Int)))
      have HBa := Lib.hid (HB.out.alloc HB.out.size (Obj.cells #[.int .i64 (n : Int)] 2))
      have hal : ∀ (b : Nat) (u : Value), b < W.heap.size → W.cell? ⟨b, 0, none⟩ = some u → (W.alloc (Obj.cells #[.int .i64 (n : Int)] 2)).cell? ⟨b, 0, none⟩ = some u := fun b u hb hu => by
        rw [World.cell?_alloc_lt _ _ _ (show (⟨b, 0, none⟩ : Addr).block < W.heap.size from hb)]; exact hu
      have HAl := Lib.hid hal
      have hgl : W.heap.size < (W.alloc (Obj.cells #[.int .i64 (n : Int)] 2)).heap.size := by simp
      clear hal
      by_cases hk : k = 0
      · have ek : ((k : Int) != 0) = false := by rw [hk]; rfl
        rcases hf with ⟨hi0, rfl⟩ | ⟨hip, b, rfl, HLo, HOne⟩
        · have hF : firstN P = n := HFi.out hi0
          have hyes : isNum (firstN P) x = true := by rw [HIs.out, hF, hk]; simp
          have HA2 : Hid (∀ p ∈ P.take (i + 1), isNum (firstN P) p = true) := by
            intro p hp
            rw [HTK.out, List.mem_append, List.mem_singleton] at hp
            rcases hp with hp | rfl
            · exact HA.out p hp
            · exact hyes
          have HF := Lib.hid hF
          clear hk hyes hF hi0
          go_wp2_with fail
          refine (HNum.out _).mono ?_
          rintro e w' ⟨rfl, rfl⟩
          have q0 := HN0.out.c0
          go_wp2_with fail
          generalize W.alloc (Obj.cells #[.int .i64 (n : Int)] 2) = W5 at *
          generalize W.heap.size = g at *
          go_quiet (fail)
          go_wp2_with fail
          refine ⟨⟨i + 1, hlt, rfl, by go_num, below_some_draws HBa.out _, .inr ⟨by omega, g, rfl, hgl, ?_⟩, HA2⟩, by simp [RowKit.intOf]; omega⟩
          show _ = _
          rw [HF.out]; exact q0
        · by_cases hn : n = firstN P
          · have hyes : isNum (firstN P) x = true := by rw [HIs.out, hn, hk]; simp
            have HA2 : Hid (∀ p ∈ P.take (i + 1), isNum (firstN P) p = true) := by
              intro p hp
              rw [HTK.out, List.mem_append, List.mem_singleton] at hp
              rcases hp with hp | rfl
              · exact HA.out p hp
              · exact hyes
            have en : ((n : Int) != (firstN P : Int)) = false := by rw [hn]; simp
            have qb := HAl.out b _ HLo.out HOne.out
            have hbl : Hid (b < (W.alloc (Obj.cells #[.int .i64 (n : Int)] 2)).heap.size) := Nat.lt_trans HLo.out hgl
            clear hk hyes hn
            generalize firstN P = F at *
            go_wp2_with fail
            refine (HNum.out _).mono ?_
            rintro e w' ⟨rfl, rfl⟩
            have q0 := HN0.out.c0
            go_wp2_with fail
            generalize W.alloc (Obj.cells #[.int .i64 (n : Int)] 2) = W5 at *
            generalize W.heap.size = g at *
            go_quiet (fail)
            go_wp2_with fail
            exact ⟨⟨i + 1, hlt, rfl, by go_num, below_some_draws HBa.out _, .inr ⟨by omega, b, rfl, hbl, qb⟩, HA2⟩, by simp [RowKit.intOf]; omega⟩
          · have hno : isNum (firstN P) x = false := by rw [HIs.out]; simp [hn]
            obtain ⟨b1, b2, b3⟩ := HBd.out hno
            have HR := Lib.hid (HRet.out 0 _ 400 b1 rfl b3)
            have HBf := Lib.hid (HB2.out.trans (HBa.out.mono HB2.out.size))
            have en : ((n : Int) != (firstN P : Int)) = true := by rw [bne_iff_ne]; omega
            have qb := HAl.out b _ HLo.out HOne.out
            clear hk hn hno b1 b2 b3
            generalize firstN P = F at *
            go_wp2_with fail
            refine (HNum.out _).mono ?_
            rintro e w' ⟨rfl, rfl⟩
            have q0 := HN0.out.c0
            go_wp2_with fail
            generalize W.alloc (Obj.cells #[.int .i64 (n : Int)] 2) = W5 at *
            generalize W.heap.size = g at *
            go_quiet (fail)
            go_wp2_with fail
            try simp only [Exit.inBlock, Exit.then]
            refine bodyPost_ret (results_tmp3' rfl _ _ _) rfl ?_
            exact ⟨HR.out, below_some_draws HBf.out _⟩
      · have ek : ((k : Int) != 0) = true := by rw [bne_iff_ne]; omega
        have hno : isNum (firstN P) x = false := by rw [HIs.out]; simp [hk]
        obtain ⟨b1, b2, b3⟩ := HBd.out hno
        have HR := Lib.hid (HRet.out 0 _ 400 b1 rfl b3)
        have HBf := Lib.hid (HB2.out.trans (HBa.out.mono HB2.out.size))
        clear hk hno b1 b2 b3
        rcases hf with ⟨hi0, rfl⟩ | ⟨hip, b, rfl, HLo, HOne⟩
        · clear hi0
          go_wp2_with fail
          refine (HNum.out _).mono ?_
          rintro e w' ⟨rfl, rfl⟩
          have q0 := HN0.out.c0
          go_wp2_with fail
          generalize W.alloc (Obj.cells #[.int .i64 (n : Int)] 2) = W5 at *
          generalize W.heap.size = g at *
          go_quiet (fail)
          go_wp2_with fail
          try simp only [Exit.inBlock, Exit.then]
          refine bodyPost_ret (results_tmp3' rfl _ _ _) rfl ?_
          exact ⟨HR.out, below_some_draws HBf.out _⟩
        · have qb := HAl.out b _ HLo.out HOne.out
          generalize firstN P = F at *
          go_wp2_with fail
          refine (HNum.out _).mono ?_
          rintro e w' ⟨rfl, rfl⟩
          have q0 := HN0.out.c0
          go_wp2_with fail
          generalize W.alloc (Obj.cells #[.int .i64 (n : Int)] 2) = W5 at *
          generalize W.heap.size = g at *
          go_quiet (fail)
          go_wp2_with fail
          try simp only [Exit.inBlock, Exit.then]
          refine bodyPost_ret (results_tmp3' rfl _ _ _) rfl ?_
          exact ⟨HR.out, below_some_draws HBf.out _⟩
    · have hil : P.take i = P := List.take_of_length_le (by omega)
      have hipl : i = P.length := by omega
      rw [hil] at HA
      have HBf := Lib.hid (HB2.out.trans (HB.out.mono HB2.out.size))
      rcases hf with ⟨hi0, rfl⟩ | ⟨hip, b, rfl, HLo, HOne⟩
      · have hP : P = [] := List.eq_nil_of_length_eq_zero (by omega)
        cases hh : hasF l nmCL
        · obtain ⟨b1, b2⟩ := HNone.out hh
          have HR := Lib.hid (HRet.out 0 false 0 b2 hh b1)
          rw [hh] at HR
          clear hil hipl hP hi0 b1 b2
          go_wp2_with fail
          try simp only [Exit.inBlock, Exit.then]
          refine bodyPost_ret (results_tmp3' rfl _ _ _) rfl ?_
          exact ⟨by rw [hh]; exact HR.out, HBf.out⟩
        · obtain ⟨b1, b2⟩ := HEmp.out hP hh
          have HR := Lib.hid (HRet.out 0 true 400 b1 hh b2)
          rw [hh] at HR
          clear hil hipl hP hi0 b1 b2
          go_wp2_with fail
          try simp only [Exit.inBlock, Exit.then]
          refine bodyPost_ret (results_tmp3' rfl _ _ _) rfl ?_
          exact ⟨by rw [hh]; exact HR.out, HBf.out⟩
      · have hP : P ≠ [] := fun e => by rw [e] at hipl; simp at hipl; omega
        obtain ⟨b1, b2, b3⟩ := HGood.out hP HA.out
        have HR := Lib.hid (HRet.out _ _ 0 b1 rfl b3)
        have q0 := HOne.out
        have hFl : firstN P ≤ 9007199254740991 := numL_le _
        clear hil hipl hP b1 b2 b3
        generalize firstN P = F at *
        go_wp2_with fail
        try simp only [Exit.inBlock, Exit.then]
        refine bodyPost_ret (results_tmp3' rfl _ _ _) rfl ?_
        exact ⟨HR.out, HBf.out⟩
end Tk
end Go.Proofs.YtdlbmfgajgefdaaDoor
namespace Go.Proofs.YtdlbmfgajgefdaaDoor
open Go.RowKit
namespace Tk

def CodPost (l : List (Bs × Bs)) (w : World) (e : Ending) (w' : World) : Prop := e = .returned (.tuple #[.bool (hasF l nmTE), .int .i64 (codS l : Nat)]) ∧ Below w.heap.size w w'
theorem cod_ret (l : List (Bs × Bs)) (b : Bool) (s : Nat) (h2 : hasF l nmTE = b) (h3 : codS l = s) : Ending.returned (.tuple #[.bool b, .int .i64 (s : Int)]) = .returned (.tuple #[.bool (hasF l nmTE), .int .i64 (codS l : Nat)]) := by rw [h2, h3]
theorem cod_no (l : List (Bs × Bs)) (h : hasF l nmTE = false) : codS l = 0 := by unfold codS; rw [h]; rfl
theorem cod_yes (l : List (Bs × Bs)) (h : hasF l nmTE = true) : codS l = if codOk (listF l nmTE) then 0 else 501 := by unfold codS; rw [h]; cases codOk (listF l nmTE) <;> rfl

set_option maxHeartbeats 4000000 in
set_option maxRecDepth 100000 in
theorem coded_any (v : Value) (l : List (Bs × Bs)) (w : World) (hs : IsFlds w v l) (hz : sumF l ≤ 1000000) (hl : l.length ≤ 1048576) :
    Calls Tryd.prog 33 #[v] w (CodPost l w) := by
  have HH : Hid (∀ W, Below w.heap.size w W → Calls Tryd.prog 44 #[v, .string ⟨#[84, 114, 97, 110, 115, 102, 101, 114, 45, 69, 110, 99, 111, 100, 105, 110, 103]⟩] W fun e w' => e = .returned (.bool (hasF l nmTE)) ∧ Below W.heap.size W w') := fun W hb => fhas_any v l nmTE W (isFlds_below hs hb) hz (by decide) hl
  have HLs : Hid (∀ W, Below w.heap.size w W → Calls Tryd.prog 45 #[v, .string ⟨#[84, 114, 97, 110, 115, 102, 101, 114, 45, 69, 110, 99, 111, 100, 105, 110, 103]⟩] W (ListPost W.heap.size (listF l nmTE) W)) := fun W hb => flist_any v l nmTE W (isFlds_below hs hb) hz (by decide) hl
  unfold ListPost at HLs
  have HPc := Lib.hid (fun p hp => Nat.le_trans (listF_piece nmTE l p hp) hz)
  have hln := listF_len nmTE l
  have hlp : (listF l nmTE).length ≤ 1000000 := by omega
  have HRet := Lib.hid (cod_ret l)
  have HNo := Lib.hid (cod_no l)
  have HYes := Lib.hid (cod_yes l)
  unfold CodPost
  obtain ⟨a, cap, rfl⟩ : ∃ a cap, v = .slice a l.length cap := by obtain ⟨a, c, h, -⟩ := hs; exact ⟨a, c, h⟩
  clear hs hz hln
  generalize listF l nmTE = P at *
  cases hh : hasF l nmTE
  · have HR := Lib.hid (HRet.out false 0 hh (HNo.out hh))
    rw [hh] at HH HR
    go_enter Tryd.func33, Tryd.ntmps33
    go_wp2_with fail
    refine (HH.out _ (Below.refl _ _)).mono ?_
    rintro e w1 ⟨rfl, hb⟩
    have HB1 := Lib.hid hb
    clear hb
    go_wp2_with fail
    refine (HLs.out _ HB1.out).mono ?_
    rintro e w2 ⟨v2, rfl, ho, hb⟩
    have HB2 := Lib.hid (HB1.out.trans (hb.mono HB1.out.size))
    obtain ⟨a1, c1, rfl⟩ : ∃ a c, v2 = .slice a P.length c := by obtain ⟨a, c, h, -⟩ := isStrs_own ho; exact ⟨a, c, h⟩
    clear ho hb
    go_wp2_with fail
    go_ret2
    exact ⟨HR.out, HB2.out⟩
  · have hy := HYes.out hh
    rw [hh] at HH
    by_cases h1 : P.length = 1
    · obtain ⟨p, rfl⟩ : ∃ p, P = [p] := List.length_eq_one_iff.1 h1
      have hpz := HPc.out p (by simp)
      have hpm := size_mkS p
      have hS : ∀ W : World, Calls Tryd.prog 47 #[.string (mkS p), .string ⟨#[99, 104, 117, 110, 107, 101, 100]⟩] W fun r w' => r = .returned (.bool (codOk [p])) ∧ ∃ n, w' = W.drewN n := fun W => by
        have h := tsame_any (mkS p) ⟨#[99, 104, 117, 110, 107, 101, 100]⟩ W (by omega) (by decide)
        have e : codOk [p] = decide (lowL (bs (mkS p)) = lowL (bs ⟨#[99, 104, 117, 110, 107, 101, 100]⟩)) := by
          show (true && decide (lowL p = lowL chkB)) = _
          rw [Bool.true_and]; rfl
        rw [e]; exact h
      have HS := Lib.hid hS
      clear hS hpm hpz h1
      cases hk : codOk [p]
      all_goals
        rw [hk] at hy HS
        have HR := Lib.hid (HRet.out true _ hh hy)
        rw [hh] at HR
        clear hy
        go_enter Tryd.func33, Tryd.ntmps33
        go_wp2_with fail
        refine (HH.out _ (Below.refl _ _)).mono ?_
        rintro e w1 ⟨rfl, hb⟩
        have HB1 := Lib.hid hb
        clear hb
        go_wp2_with fail
        refine (HLs.out _ HB1.out).mono ?_
        rintro e w2 ⟨v2, rfl, ho, hb⟩
        have HB2 := Lib.hid (HB1.out.trans (hb.mono HB1.out.size))
        obtain ⟨a1, c1, rfl, hc⟩ := isStrs_own ho
        obtain ⟨b, o, rfl, hc0⟩ := hc 0 p (by simp)
        rw [Nat.add_zero] at hc0
        clear ho hb hc
        go_wp2_with fail
        refine (HS.out _).mono ?_
        rintro e w3 ⟨rfl, n, rfl⟩
        go_wp2_with fail
        go_ret2
        exact ⟨HR.out, below_some_draws HB2.out _⟩
    · have hk : codOk P = false := by unfold codOk; simp [h1]
      rw [hk] at hy
      have HR := Lib.hid (HRet.out true 501 hh hy)
      rw [hh] at HR
      have hb1 : ((P.length : Int) != 1) = true := by rw [bne_iff_ne]; omega
      clear hy h1 hk
      go_enter Tryd.func33, Tryd.ntmps33
      go_wp2_with fail
      refine (HH.out _ (Below.refl _ _)).mono ?_
      rintro e w1 ⟨rfl, hb⟩
      have HB1 := Lib.hid hb
      clear hb
      go_wp2_with fail
      refine (HLs.out _ HB1.out).mono ?_
      rintro e w2 ⟨v2, rfl, ho, hb⟩
      have HB2 := Lib.hid (HB1.out.trans (hb.mono HB1.out.size))
      obtain ⟨a1, c1, rfl⟩ : ∃ a c, v2 = .slice a P.length c := by obtain ⟨a, c, h, -⟩ := isStrs_own ho; exact ⟨a, c, h⟩
      clear ho hb
      go_wp2_with fail
      go_ret2
      exact ⟨HR.out, HB2.out⟩
end Tk
end Go.Proofs.YtdlbmfgajgefdaaDoor
namespace Go.Proofs.YtdlbmfgajgefdaaDoor
open Go.RowKit
namespace Tk

theorem bs_nil_iff (M : ByteArray) : bs M = [] ↔ M = ⟨#[]⟩ := by
  constructor
  · intro h; rw [← mkS_bs M, h]; rfl
  · rintro rfl; rfl
theorem isE_no {M : ByteArray} (h : bs M ≠ []) : M.toList.isEmpty = false := by rw [toList_bs]; cases e : bs M with | nil => exact absurd e h | cons _ _ => rfl

set_option maxHeartbeats 1000000 in
set_option maxRecDepth 100000 in
theorem isReq_any (M T : ByteArray) (s : Int) (R : ByteArray) (mi : Int) (vf : Value) (B : ByteArray) (vt : Value) (w : World) :
    Calls Tryd.prog 12 #[.agg (msgC M T s R mi vf B vt)] w fun e w' => e = .returned (.bool (!decide (bs M = []))) ∧ Below w.heap.size w w' := by
  have hX := Box.new w 27 (msgC M T s R mi vf B vt)
  have HB0 := Lib.hid (below_alloc w (.cells (msgC M T s R mi vf B vt) 27))
  have c0 := hX.cell 0 _ rfl
  unfold msgC at *
  by_cases hm : bs M = []
  · have hM := (bs_nil_iff M).1 hm
    subst hM
    rw [decide_eq_true hm]
    clear hm hX
    go_enter Tryd.func12, Tryd.ntmps12
    go_wp2_with fail
    go_ret
    exact ⟨rfl, HB0.out⟩
  · have he := isE_no hm
    rw [decide_eq_false hm]
    clear hm hX
    go_enter Tryd.func12, Tryd.ntmps12
    go_wp2_with fail
    go_ret
    exact ⟨rfl, HB0.out⟩

set_option maxHeartbeats 1000000 in
theorem framed_any (v : Value) (l : List (Bs × Bs)) (w : World) (hs : IsFlds w v l) (hz : sumF l ≤ 1000000) (hl : l.length ≤ 1048576) :
    Calls Tryd.prog 23 #[v] w fun e w' => e = .returned (.bool (endB l)) ∧ Below w.heap.size w w' := by
  have HL := Lib.hid (length_any v l w hs hz hl)
  have HC := Lib.hid (fun (W : World) (hb : Below w.heap.size w W) => coded_any v l W (isFlds_below hs hb) hz hl)
  have HE := Lib.hid (show endB l = (hasF l nmCL || hasF l nmTE) from rfl)
  unfold LenPost at HL
  unfold CodPost at HC
  obtain ⟨a, cap, rfl⟩ : ∃ a cap, v = .slice a l.length cap := by obtain ⟨a, c, h, -⟩ := hs; exact ⟨a, c, h⟩
  generalize hasF l nmCL = p at *
  generalize hasF l nmTE = q at *
  clear hs hz hl
  cases p <;> cases q
  all_goals
    go_enter Tryd.func23, Tryd.ntmps23
    go_wp2_with fail
    refine HL.out.mono ?_
    rintro e w1 ⟨rfl, hb⟩
    have HB1 := Lib.hid hb
    clear hb
    go_wp2_with fail
    refine (HC.out _ HB1.out).mono ?_
    rintro e w2 ⟨rfl, hb⟩
    have HB2 := Lib.hid (HB1.out.trans (hb.mono HB1.out.size))
    clear hb
    go_wp2_with fail
    go_ret
    exact ⟨by rw [HE.out]; rfl, HB2.out⟩

set_option maxHeartbeats 1000000 in
theorem bare8_any (s : Int) (w : World) :
    Calls Tryd.prog 17 #[.int .i64 s] w fun e w' => e = .returned (.bool (bareB [] s)) ∧ w = w' := by
  have h := bare_any ⟨#[]⟩ s w
  change Calls Tryd.prog _ _ _ fun e w' => e = .returned (.bool (bareB [] s)) ∧ w = w' at h
  have H := Lib.hid h
  clear h
  generalize bareB [] s = b at *
  go_enter Tryd.func17, Tryd.ntmps17
  go_wp2_with fail
  refine H.out.mono ?_
  rintro e w1 ⟨rfl, rfl⟩
  go_wp2_with fail
  go_ret
  exact ⟨rfl, rfl⟩

theorem hasC_mem (M : ByteArray) : Lib.containsS [(⟨#[80, 79, 83, 84]⟩ : ByteArray), ⟨#[80, 85, 84]⟩, ⟨#[80, 65, 84, 67, 72]⟩] M = hasC (bs M) := by
  have h : ∀ (k : Bs), (M = mkS k) ↔ (bs M = k) := fun k => ⟨fun e => by rw [e, bs_mkS], fun e => by rw [← e, mkS_bs]⟩
  have h1 := h poB
  have h2 := h puB
  have h3 := h paB
  change (M = (⟨#[80, 79, 83, 84]⟩ : ByteArray)) ↔ _ at h1
  change (M = (⟨#[80, 85, 84]⟩ : ByteArray)) ↔ _ at h2
  change (M = (⟨#[80, 65, 84, 67, 72]⟩ : ByteArray)) ↔ _ at h3
  unfold hasC
  rw [Bool.eq_iff_iff, Lib.containsS_iff, Bool.or_eq_true, Bool.or_eq_true, decide_eq_true_eq, decide_eq_true_eq, decide_eq_true_eq, ← h1, ← h2, ← h3]
  simp [or_assoc]
set_option maxHeartbeats 1000000 in
theorem hasC_any (M : ByteArray) (w : World) :
    Calls Tryd.prog 13 #[.string M] w fun e w' => e = .returned (.bool (hasC (bs M))) ∧ Below w.heap.size w w' := by
  have h := Tryd.slices_Contains_string w.heap.size 0 3 3 [(⟨#[80, 79, 83, 84]⟩ : ByteArray), ⟨#[80, 85, 84]⟩, ⟨#[80, 65, 84, 67, 72]⟩] M (w.alloc (.cells #[.string ⟨#[80, 79, 83, 84]⟩, .string ⟨#[80, 85, 84]⟩, .string ⟨#[80, 65, 84, 67, 72]⟩] 9)) (by decide) (by decide) (fun j hj => by
    rw [Lib.cell_of_heap (heap_alloc_last w _)]
    match j, hj with
    | 0, _ => rfl
    | 1, _ => rfl
    | 2, _ => rfl)
  rw [show ([(⟨#[80, 79, 83, 84]⟩ : ByteArray), ⟨#[80, 85, 84]⟩, ⟨#[80, 65, 84, 67, 72]⟩].take 3) = [(⟨#[80, 79, 83, 84]⟩ : ByteArray), ⟨#[80, 85, 84]⟩, ⟨#[80, 65, 84, 67, 72]⟩] from rfl, hasC_mem] at h
  have H := Lib.hid h
  have HB0 := Lib.hid (below_alloc w (.cells #[.string ⟨#[80, 79, 83, 84]⟩, .string ⟨#[80, 85, 84]⟩, .string ⟨#[80, 65, 84, 67, 72]⟩] 9))
  clear h
  generalize hasC (bs M) = b at *
  go_enter Tryd.func13, Tryd.ntmps13
  go_wp2_with fail
  refine H.out.mono ?_
  rintro e w1 ⟨rfl, rfl⟩
  go_wp2_with fail
  go_ret
  exact ⟨rfl, HB0.out⟩

/-- a first line, its error -/
def FlPost (M T : Bs) (s : Int) (R : Bs) (mi : Int) (w : World) (e : Ending) (w' : World) : Prop := e = .returned (.tuple #[.string (mkS (flS M T s R mi)), .int .i64 (flE M T s R mi)]) ∧ Below w.heap.size w w'

set_option maxHeartbeats 8000000 in
set_option maxRecDepth 100000 in
theorem firstLine_any (M T : ByteArray) (s : Int) (R : ByteArray) (mi : Int) (vf : Value) (B : ByteArray) (vt : Value) (w : World) (hTn : Tens w) (hM : M.size ≤ 1099511627) (hT : T.size ≤ 1099511627) (hR : R.size ≤ 1099511627) :
    Calls Tryd.prog 21 #[.agg (msgC M T s R mi vf B vt)] w (FlPost (bs M) (bs T) s (bs R) mi w) := by
  have HX := Lib.hid (Box.new w 27 (msgC M T s R mi vf B vt))
  have HB0 := Lib.hid (below_alloc w (.cells (msgC M T s R mi vf B vt) 27))
  have HQ := Lib.hid (fun W : World => isReq_any M T s R mi vf B vt W)
  have HRl := Lib.hid (fun W : World => requestLine_any M T mi W hM hT)
  have HSl := Lib.hid (fun (W : World) (hb : Below w.heap.size w W) => statusLine_any mi s R W (hTn.later hb) hR)
  unfold RlPost at HRl
  unfold SlPost at HSl
  unfold FlPost
  have c0 := HX.out.cell 0 _ rfl
  have c1 := HX.out.cell 1 _ rfl
  have c2 := HX.out.cell 2 _ rfl
  have c3 := HX.out.cell 3 _ rfl
  have c4 := HX.out.cell 4 _ rfl
  have c5 := HX.out.cell 5 _ rfl
  have c6 := HX.out.cell 6 _ rfl
  have c7 := HX.out.cell 7 _ rfl
  clear hTn hM hT hR
  unfold msgC at *
  by_cases hm : bs M = []
  · rw [decide_eq_true hm] at HQ
    by_cases ht : bs T = []
    · have hS : flS (bs M) (bs T) s (bs R) mi = slS mi s (bs R) ∧ flE (bs M) (bs T) s (bs R) mi = slE mi s (bs R) := by unfold flS flE; rw [if_pos hm, if_pos ht, if_pos hm, if_pos ht]; exact ⟨rfl, rfl⟩
      rw [hS.1, hS.2]
      have hTe := (bs_nil_iff T).1 ht
      have hMe := (bs_nil_iff M).1 hm
      subst hTe hMe
      clear hS hm ht HRl
      generalize slS mi s (bs R) = X at *
      generalize slE mi s (bs R) = E at *
      go_enter Tryd.func21, Tryd.ntmps21
      go_wp2_with fail
      refine (HQ.out _).mono ?_
      rintro e w1 ⟨rfl, hb⟩
      have HX1 := Lib.hid (HX.out.later hb)
      have HB1 := Lib.hid (HB0.out.trans (hb.mono HB0.out.size))
      clear hb c0 c1 c2 c3 c4 c5 c6 c7
      have c0 := HX1.out.cell 0 _ rfl
      have c1 := HX1.out.cell 1 _ rfl
      have c2 := HX1.out.cell 2 _ rfl
      have c3 := HX1.out.cell 3 _ rfl
      have c4 := HX1.out.cell 4 _ rfl
      have c5 := HX1.out.cell 5 _ rfl
      have c6 := HX1.out.cell 6 _ rfl
      have c7 := HX1.out.cell 7 _ rfl
      go_wp2_with fail
      refine (HQ.out _).mono ?_
      rintro e w2 ⟨rfl, hb⟩
      have HX2 := Lib.hid (HX1.out.later hb)
      have HB2 := Lib.hid (HB1.out.trans (hb.mono HB1.out.size))
      clear hb c0 c1 c2 c3 c4 c5 c6 c7
      have c1 := HX2.out.cell 1 _ rfl
      have c2 := HX2.out.cell 2 _ rfl
      have c3 := HX2.out.cell 3 _ rfl
      have c4 := HX2.out.cell 4 _ rfl
      go_wp2_with fail
      refine (HSl.out _ HB2.out).mono ?_
      rintro e w3 ⟨rfl, hb⟩
      have HB3 := Lib.hid (HB2.out.trans (hb.mono HB2.out.size))
      clear hb
      go_wp2_with fail
      go_ret2
      exact ⟨rfl, HB3.out⟩
    · have hS : flS (bs M) (bs T) s (bs R) mi = [] ∧ flE (bs M) (bs T) s (bs R) mi = 4 := by unfold flS flE; rw [if_pos hm, if_neg ht, if_pos hm, if_neg ht]; exact ⟨rfl, rfl⟩
      rw [hS.1, hS.2]
      have hTe := isE_no ht
      have hMe := (bs_nil_iff M).1 hm
      subst hMe
      clear hS hm ht HRl HSl
      go_enter Tryd.func21, Tryd.ntmps21
      go_wp2_with fail
      refine (HQ.out _).mono ?_
      rintro e w1 ⟨rfl, hb⟩
      have HX1 := Lib.hid (HX.out.later hb)
      have HB1 := Lib.hid (HB0.out.trans (hb.mono HB0.out.size))
      clear hb c0 c1 c2 c3 c4 c5 c6 c7
      have c0 := HX1.out.cell 0 _ rfl
      have c1 := HX1.out.cell 1 _ rfl
      have c2 := HX1.out.cell 2 _ rfl
      have c3 := HX1.out.cell 3 _ rfl
      have c4 := HX1.out.cell 4 _ rfl
      have c5 := HX1.out.cell 5 _ rfl
      have c6 := HX1.out.cell 6 _ rfl
      have c7 := HX1.out.cell 7 _ rfl
      go_wp2_with fail
      refine (HQ.out _).mono ?_
      rintro e w2 ⟨rfl, hb⟩
      have HX2 := Lib.hid (HX1.out.later hb)
      have HB2 := Lib.hid (HB1.out.trans (hb.mono HB1.out.size))
      clear hb c0 c1 c2 c3 c4 c5 c6 c7
      have c1 := HX2.out.cell 1 _ rfl
      go_wp2_with fail
      go_ret2
      exact ⟨rfl, HB2.out⟩
  · rw [decide_eq_false hm] at HQ
    have he := isE_no hm
    by_cases hc : s = 0 ∧ bs R = []
    · obtain ⟨h0, h1⟩ := hc
      have hS : flS (bs M) (bs T) s (bs R) mi = rlS (bs M) (bs T) mi ∧ flE (bs M) (bs T) s (bs R) mi = rlE (bs M) (bs T) mi := by unfold flS flE; rw [if_neg hm, if_pos ⟨h0, h1⟩, if_neg hm, if_pos ⟨h0, h1⟩]; exact ⟨rfl, rfl⟩
      rw [hS.1, hS.2]
      have hRe := (bs_nil_iff R).1 h1
      subst hRe h0
      clear hS hm h1 HSl
      generalize rlS (bs M) (bs T) mi = X at *
      generalize rlE (bs M) (bs T) mi = E at *
      go_enter Tryd.func21, Tryd.ntmps21
      go_wp2_with fail
      refine (HQ.out _).mono ?_
      rintro e w1 ⟨rfl, hb⟩
      have HX1 := Lib.hid (HX.out.later hb)
      have HB1 := Lib.hid (HB0.out.trans (hb.mono HB0.out.size))
      clear hb c0 c1 c2 c3 c4 c5 c6 c7
      have c0 := HX1.out.cell 0 _ rfl
      have c1 := HX1.out.cell 1 _ rfl
      have c2 := HX1.out.cell 2 _ rfl
      have c3 := HX1.out.cell 3 _ rfl
      have c4 := HX1.out.cell 4 _ rfl
      go_wp2_with fail
      refine (HRl.out _).mono ?_
      rintro e w3 ⟨rfl, hb⟩
      have HB3 := Lib.hid (HB1.out.trans (hb.mono HB1.out.size))
      clear hb
      go_wp2_with fail
      go_ret2
      exact ⟨rfl, HB3.out⟩
    · have hS : flS (bs M) (bs T) s (bs R) mi = [] ∧ flE (bs M) (bs T) s (bs R) mi = 4 := by unfold flS flE; rw [if_neg hm, if_neg hc, if_neg hm, if_neg hc]; exact ⟨rfl, rfl⟩
      rw [hS.1, hS.2]
      by_cases h0 : s = 0
      · have h1 := isE_no (fun h => hc ⟨h0, h⟩ : bs R ≠ [])
        subst h0
        clear hS hm hc HSl HRl
        go_enter Tryd.func21, Tryd.ntmps21
        go_wp2_with fail
        refine (HQ.out _).mono ?_
        rintro e w1 ⟨rfl, hb⟩
        have HX1 := Lib.hid (HX.out.later hb)
        have HB1 := Lib.hid (HB0.out.trans (hb.mono HB0.out.size))
        clear hb c0 c1 c2 c3 c4 c5 c6 c7
        have c0 := HX1.out.cell 0 _ rfl
        have c1 := HX1.out.cell 1 _ rfl
        have c2 := HX1.out.cell 2 _ rfl
        have c3 := HX1.out.cell 3 _ rfl
        have c4 := HX1.out.cell 4 _ rfl
        have c5 := HX1.out.cell 5 _ rfl
        have c6 := HX1.out.cell 6 _ rfl
        have c7 := HX1.out.cell 7 _ rfl
        go_wp2_with fail
        refine (HQ.out _).mono ?_
        rintro e w2 ⟨rfl, hb⟩
        have HB2 := Lib.hid (HB1.out.trans (hb.mono HB1.out.size))
        clear hb
        go_wp2_with fail
        go_ret2
        exact ⟨rfl, HB2.out⟩
      · have hse : (s == 0) = false := by simp [h0]
        clear hS hm hc h0 HSl HRl
        go_enter Tryd.func21, Tryd.ntmps21
        go_wp2_with fail
        refine (HQ.out _).mono ?_
        rintro e w1 ⟨rfl, hb⟩
        have HX1 := Lib.hid (HX.out.later hb)
        have HB1 := Lib.hid (HB0.out.trans (hb.mono HB0.out.size))
        clear hb c0 c1 c2 c3 c4 c5 c6 c7
        have c0 := HX1.out.cell 0 _ rfl
        have c1 := HX1.out.cell 1 _ rfl
        have c2 := HX1.out.cell 2 _ rfl
        have c3 := HX1.out.cell 3 _ rfl
        have c4 := HX1.out.cell 4 _ rfl
        have c5 := HX1.out.cell 5 _ rfl
        have c6 := HX1.out.cell 6 _ rfl
        have c7 := HX1.out.cell 7 _ rfl
        go_wp2_with fail
        refine (HQ.out _).mono ?_
        rintro e w2 ⟨rfl, hb⟩
        have HB2 := Lib.hid (HB1.out.trans (hb.mono HB1.out.size))
        clear hb
        go_wp2_with fail
        go_ret2
        exact ⟨rfl, HB2.out⟩
end Tk
end Go.Proofs.YtdlbmfgajgefdaaDoor
namespace Go.Proofs.YtdlbmfgajgefdaaDoor
open Go.RowKit
namespace Tk

/-- what is read of the table of trailing zeros -/
def Bruijn (B : Nat) (w : World) : Prop := 2 < B ∧ B ≤ w.heap.size ∧ w.cell? ⟨2, 15, none⟩ = some (.int .u8 4)
theorem Bruijn.later {B : Nat} {w w' : World} (h : Bruijn B w) (hb : Below B w w') : Bruijn B w' := by
  obtain ⟨h1, h2, h3⟩ := h
  exact ⟨h1, Nat.le_trans h2 hb.size, (hb.cell (p := ⟨2, 15, none⟩) h1).trans h3⟩
theorem Bruijn.top {B : Nat} {w : World} (h : Bruijn B w) : Bruijn w.heap.size w := ⟨Nat.lt_of_lt_of_le h.1 h.2.1, Nat.le_refl _, h.2.2⟩

set_option maxHeartbeats 1000000 in
set_option maxRecDepth 100000 in
theorem tz64_any (B : Nat) (w : World) (h : Bruijn B w) :
    Calls Tryd.prog 82 #[.int .u64 16] w fun e w' => e = .returned (.int .i64 4) ∧ w' = w := by
  have hc := h.2.2
  have b1 : bits .and .u64 16 (IntKind.u64.wrap (-16)) = 16 := by decide
  have b2 : IntKind.u64.wrap (16 * 285870213051353865) = 4573923408821661840 := by decide
  have b3 : Int.shiftRight 4573923408821661840 58 = 15 := by decide
  clear h
  go_enter Tryd.func82, Tryd.ntmps82
  go_wp2
  go_ret
  exact ⟨rfl, rfl⟩

set_option maxHeartbeats 1000000 in
set_option maxRecDepth 100000 in
theorem tz_any (B : Nat) (w : World) (h : Bruijn B w) :
    Calls Tryd.prog 68 #[.int .u64 16] w fun e w' => e = .returned (.int .i64 4) ∧ w' = w := by
  have H := Lib.hid (tz64_any B w h)
  clear h
  go_enter Tryd.func68, Tryd.ntmps68
  go_wp2_with fail
  refine H.out.mono ?_
  rintro e w' ⟨rfl, rfl⟩
  go_wp2_with fail
  go_ret
  exact ⟨rfl, rfl⟩
set_option maxHeartbeats 1000000 in
set_option maxRecDepth 100000 in
theorem pow2_any (w : World) :
    Calls Tryd.prog 67 #[.int .i64 16] w fun e w' => e = .returned (.bool true) ∧ w' = w := by
  have b1 : bits .and .i64 16 15 = 0 := by decide
  go_enter Tryd.func67, Tryd.ntmps67
  go_wp2
  go_ret
  exact ⟨rfl, rfl⟩

theorem hex_and0 : ∀ a : Nat, a < 64 → ∀ b : Nat, b < 64 → bits .and .u64 ((64 * a + b : Nat) : Int) 15 = (((64 * a + b) % 16 : Nat) : Int) := by decide +kernel
theorem hex_shr0 : ∀ a : Nat, a < 64 → ∀ b : Nat, b < 64 → Int.shiftRight ((64 * a + b : Nat) : Int) 4 = (((64 * a + b) / 16 : Nat) : Int) := by decide +kernel
theorem hex_and (n : Nat) (h : n < 4096) : bits .and .u64 (n : Int) 15 = ((n % 16 : Nat) : Int) := by
  have := hex_and0 (n / 64) (by omega) (n % 64) (by omega)
  rwa [show 64 * (n / 64) + n % 64 = n by omega] at this
theorem hex_shr (n : Nat) (h : n < 4096) : Int.shiftRight (n : Int) 4 = ((n / 16 : Nat) : Int) := by
  have := hex_shr0 (n / 64) (by omega) (n % 64) (by omega)
  rwa [show 64 * (n / 64) + n % 64 = n by omega] at this
def digs36 : ByteArray := ⟨#[48, 49, 50, 51, 52, 53, 54, 55, 56, 57, 97, 98, 99, 100, 101, 102, 103, 104, 105, 106, 107, 108, 109, 110, 111, 112, 113, 114, 115, 116, 117, 118, 119, 120, 121, 122]⟩
theorem digs_at (n : Nat) (h : n < 16) (h2 : n < digs36.size) : digs36[n] = hexc n := by
  match n, h with
  | 0, _ | 1, _ | 2, _ | 3, _ | 4, _ | 5, _ | 6, _ | 7, _ | 8, _ | 9, _ | 10, _ | 11, _ | 12, _ | 13, _ | 14, _ | 15, _ => rfl
  | n + 16, h => omega

set_option maxHeartbeats 8000000 in
set_option maxRecDepth 100000 in
theorem fmtBits_any (n : Nat) (B : Nat) (w : World) (h : Bruijn B w) (hn : n < 4096) :
    Calls Tryd.prog 52 #[.slice none 0 0, .int .u64 n, .int .i64 16, .bool false, .bool false] w fun e w' => e = .returned (.tuple #[.slice none 0 0, .string (mkS (hexL n))]) ∧ Below w.heap.size w w' := by
  have H1 := Lib.hid (fun W : World => pow2_any W)
  have H2 := Lib.hid (fun (W : World) (hb : Below w.heap.size w W) => tz_any w.heap.size W (h.top.later hb))
  have hz := heap_alloc_last w (.cells Tryd.zeroCells96 96)
  have c64 : (w.alloc (.cells Tryd.zeroCells96 96)).cell? ⟨w.heap.size, 64, none⟩ = some (.int .u8 0) := by rw [Lib.cell_of_heap hz]; kernel_rfl
  have c63 : (w.alloc (.cells Tryd.zeroCells96 96)).cell? ⟨w.heap.size, 63, none⟩ = some (.int .u8 0) := by rw [Lib.cell_of_heap hz]; kernel_rfl
  have c62 : (w.alloc (.cells Tryd.zeroCells96 96)).cell? ⟨w.heap.size, 62, none⟩ = some (.int .u8 0) := by rw [Lib.cell_of_heap hz]; kernel_rfl
  have f64 : (w.alloc (.cells Tryd.zeroCells96 96)).frozen? ⟨w.heap.size, 64, none⟩ = false := Lib.frozen_of_heap hz 64
  have f63 : (w.alloc (.cells Tryd.zeroCells96 96)).frozen? ⟨w.heap.size, 63, none⟩ = false := Lib.frozen_of_heap hz 63
  have f62 : (w.alloc (.cells Tryd.zeroCells96 96)).frozen? ⟨w.heap.size, 62, none⟩ = false := Lib.frozen_of_heap hz 62
  have HB0 := Lib.hid (show Below w.heap.size w (w.alloc (.cells Tryd.zeroCells96 96)) from (Below.refl _ _).alloc (Nat.le_refl _) _)
  clear h hz
  go_enter Tryd.func52, Tryd.ntmps52
  go_wp2_with fail
  generalize w.alloc (.cells Tryd.zeroCells96 96) = W0 at *
  have HG := Lib.hid (Nat.le_refl w.heap.size)
  generalize hg : w.heap.size = g at c64 c63 c62 f64 f63 f62 HG ⊢
  have HGe := Lib.hid hg
  clear hg
  refine (H1.out _).mono ?_
  rintro e w' ⟨rfl, rfl⟩
  go_wp2_with fail
  refine (H2.out _ HB0.out).mono ?_
  rintro e w' ⟨rfl, rfl⟩
  go_wp2_with fail
  have C64 := Lib.hid c64
  have C63 := Lib.hid c63
  have C62 := Lib.hid c62
  have F64 := Lib.hid f64
  have F63 := Lib.hid f63
  have F62 := Lib.hid f62
  clear c64 c63 c62 f64 f63 f62 H1 H2
  have hadd : ∀ k : Nat, (⟨g, k, none⟩ : Addr).add 1 = ⟨g, k + 1, none⟩ := fun k => Go.WideShapes.add_plain _ _ _
  have hadd2 : ∀ k : Nat, (⟨g, k, none⟩ : Addr).add 2 = ⟨g, k + 2, none⟩ := fun k => Go.WideShapes.add_plain _ _ _
  have HAd := Lib.hid (And.intro hadd hadd2)
  clear hadd hadd2
  go_loopw [1, 13] (fun vu vi wr => (vu = .int .u64 n ∧ vi = .int .i64 65 ∧ wr = w') ∨ (16 ≤ n ∧ vu = .int .u64 ((n / 16 : Nat) : Int) ∧ vi = .int .i64 64 ∧ wr = w'.setCell ⟨g, 64, none⟩ (.int .u8 (hexc (n % 16)).toNat)) ∨ (16 ≤ n / 16 ∧ vu = .int .u64 ((n / 16 / 16 : Nat) : Int) ∧ vi = .int .i64 63 ∧ wr = (w'.setCell ⟨g, 64, none⟩ (.int .u8 (hexc (n % 16)).toNat)).setCell ⟨g, 63, none⟩ (.int .u8 (hexc (n / 16 % 16)).toNat))) (fun vu _ _ => (RowKit.intOf vu).toNat)
  case atStart => exact .inl ⟨rfl, rfl, rfl⟩
  case round =>
    have c64 := C64.out
    have f64 := F64.out
    rcases hrel with ⟨rfl, rfl, rfl⟩ | ⟨h16, rfl, rfl, rfl⟩ | ⟨h16, rfl, rfl, rfl⟩
    · by_cases h16 : 16 ≤ n
      · have ha := hex_and n hn
        have hs := hex_shr n hn
        have hd : ∀ h : n % 16 < (⟨#[48, 49, 50, 51, 52, 53, 54, 55, 56, 57, 97, 98, 99, 100, 101, 102, 103, 104, 105, 106, 107, 108, 109, 110, 111, 112, 113, 114, 115, 116, 117, 118, 119, 120, 121, 122]⟩ : ByteArray).size, (⟨#[48, 49, 50, 51, 52, 53, 54, 55, 56, 57, 97, 98, 99, 100, 101, 102, 103, 104, 105, 106, 107, 108, 109, 110, 111, 112, 113, 114, 115, 116, 117, 118, 119, 120, 121, 122]⟩ : ByteArray)[n % 16] = hexc (n % 16) := fun h => digs_at (n % 16) (by omega) h
        have b1 : (16 : Int) ≤ (n : Int) := by omega
        have b2 : ((n % 16 : Nat) : Int) < 36 := by omega
        have b3 : (0 : Int) ≤ ((n % 16 : Nat) : Int) := by omega
        generalize hm : n % 16 = m at *
        generalize hq : n / 16 = q at *
        have HM := Lib.hid hm
        have HQ := Lib.hid hq
        clear hm hq
        go_wp2_with fail
        exact ⟨.inr (.inl ⟨h16, by rw [show (n : Int) / 16 = (q : Int) by have := HQ.out; omega], rfl, by first | trivial | rfl⟩), by simp [RowKit.intOf]; omega⟩
      · have hd : ∀ h : n < (⟨#[48, 49, 50, 51, 52, 53, 54, 55, 56, 57, 97, 98, 99, 100, 101, 102, 103, 104, 105, 106, 107, 108, 109, 110, 111, 112, 113, 114, 115, 116, 117, 118, 119, 120, 121, 122]⟩ : ByteArray).size, (⟨#[48, 49, 50, 51, 52, 53, 54, 55, 56, 57, 97, 98, 99, 100, 101, 102, 103, 104, 105, 106, 107, 108, 109, 110, 111, 112, 113, 114, 115, 116, 117, 118, 119, 120, 121, 122]⟩ : ByteArray)[n] = hexc n := fun h => digs_at n (by omega) h
        have b1 : ¬ (16 : Int) ≤ (n : Int) := by omega
        have b2 : (n : Int) < 36 := by omega
        have b3 : (0 : Int) ≤ (n : Int) := by omega
        have hcv : (convert 37 9 (.slice (some ⟨g, 64, none⟩) 1 1)).run Tryd.prog (wr.setCell ⟨g, 64, none⟩ (.int .u8 (hexc n).toNat)) = .ok (.string (mkS [hexc n])) (wr.setCell ⟨g, 64, none⟩ (.int .u8 (hexc n).toNat)) := run_convert_bytes_back (P := Tryd.prog) (wr.setCell ⟨g, 64, none⟩ (.int .u8 (hexc n).toNat)) 37 9 5 ⟨g, 64, none⟩ 1 [hexc n] Tryd.underlying37 Tryd.underlying5 Tryd.underlying9 (fun j hj => by
          have hj0 : j = 0 := by simpa using hj
          subst hj0
          exact World.cell?_setCell_same _ _ _ c64)
        have HR := Lib.hid (hexF_small hexc n (by omega))
        have HBw := Lib.hid (show Below w.heap.size w (wr.setCell ⟨g, 64, none⟩ (.int .u8 (hexc n).toNat)) from HB0.out.setCell (p := ⟨g, 64, none⟩) (by rw [HGe.out]; exact Nat.le_refl _) _)
        clear h16
        go_wp2_with fail
        go_ret2
        exact ⟨by show _ = Ending.returned (.tuple #[.slice none 0 0, .string (mkS (hexF hexc _))]); rw [HR.out]; rfl, HBw.out⟩
    · have HQ := Lib.hid (show n / 16 < 256 by omega)
      have c63 : (w'.setCell ⟨g, 64, none⟩ (.int .u8 (hexc (n % 16)).toNat)).cell? ⟨g, 63, none⟩ = some (.int .u8 0) := by rw [World.cell?_setCell_other _ _ _ _ (by simp)]; exact C63.out
      have f63 : (w'.setCell ⟨g, 64, none⟩ (.int .u8 (hexc (n % 16)).toNat)).frozen? ⟨g, 63, none⟩ = false := by simpa using F63.out
      have d64 : (w'.setCell ⟨g, 64, none⟩ (.int .u8 (hexc (n % 16)).toNat)).cell? ⟨g, 64, none⟩ = some (.int .u8 (hexc (n % 16)).toNat) := World.cell?_setCell_same _ _ _ c64
      by_cases h17 : 16 ≤ n / 16
      · have ha := hex_and (n / 16) (by omega)
        have hs := hex_shr (n / 16) (by omega)
        have hd : ∀ h : n / 16 % 16 < (⟨#[48, 49, 50, 51, 52, 53, 54, 55, 56, 57, 97, 98, 99, 100, 101, 102, 103, 104, 105, 106, 107, 108, 109, 110, 111, 112, 113, 114, 115, 116, 117, 118, 119, 120, 121, 122]⟩ : ByteArray).size, (⟨#[48, 49, 50, 51, 52, 53, 54, 55, 56, 57, 97, 98, 99, 100, 101, 102, 103, 104, 105, 106, 107, 108, 109, 110, 111, 112, 113, 114, 115, 116, 117, 118, 119, 120, 121, 122]⟩ : ByteArray)[n / 16 % 16] = hexc (n / 16 % 16) := fun h => digs_at (n / 16 % 16) (by omega) h
        have b1 : (16 : Int) ≤ ((n / 16 : Nat) : Int) := by omega
        have b2 : ((n / 16 % 16 : Nat) : Int) < 36 := by omega
        have b3 : (0 : Int) ≤ ((n / 16 % 16 : Nat) : Int) := by omega
        have HLt := Lib.hid (show n / 16 / 16 < n / 16 by omega)
        clear h16 hn
        generalize n % 16 = m at *
        generalize n / 16 = q at *
        generalize hqq : q / 16 = qq at *
        generalize q % 16 = mm at *
        have HQQ := Lib.hid hqq
        clear hqq
        generalize w'.setCell ⟨g, 64, none⟩ (.int .u8 (hexc m).toNat) = W1 at *
        clear c64 f64 d64
        go_wp2_with fail
        exact ⟨.inr (.inr ⟨h17, by rw [show (q : Int) / 16 = (qq : Int) by have := HQQ.out; omega], rfl, by first | trivial | rfl⟩), by simp [RowKit.intOf]; have := HLt.out; omega⟩
      · have hd : ∀ h : n / 16 < (⟨#[48, 49, 50, 51, 52, 53, 54, 55, 56, 57, 97, 98, 99, 100, 101, 102, 103, 104, 105, 106, 107, 108, 109, 110, 111, 112, 113, 114, 115, 116, 117, 118, 119, 120, 121, 122]⟩ : ByteArray).size, (⟨#[48, 49, 50, 51, 52, 53, 54, 55, 56, 57, 97, 98, 99, 100, 101, 102, 103, 104, 105, 106, 107, 108, 109, 110, 111, 112, 113, 114, 115, 116, 117, 118, 119, 120, 121, 122]⟩ : ByteArray)[n / 16] = hexc (n / 16) := fun h => digs_at (n / 16) (by omega) h
        have HR := Lib.hid (show hexF hexc n = [hexc (n / 16), hexc (n % 16)] by rw [hexF_big hexc n (by omega), hexF_small hexc (n / 16) (by omega)]; rfl)
        have hcv : (convert 37 9 (.slice (some ⟨g, 63, none⟩) 2 2)).run Tryd.prog ((w'.setCell ⟨g, 64, none⟩ (.int .u8 (hexc (n % 16)).toNat)).setCell ⟨g, 63, none⟩ (.int .u8 (hexc (n / 16)).toNat)) = .ok (.string (mkS [hexc (n / 16), hexc (n % 16)])) ((w'.setCell ⟨g, 64, none⟩ (.int .u8 (hexc (n % 16)).toNat)).setCell ⟨g, 63, none⟩ (.int .u8 (hexc (n / 16)).toNat)) := run_convert_bytes_back (P := Tryd.prog) ((w'.setCell ⟨g, 64, none⟩ (.int .u8 (hexc (n % 16)).toNat)).setCell ⟨g, 63, none⟩ (.int .u8 (hexc (n / 16)).toNat)) 37 9 5 ⟨g, 63, none⟩ 2 [hexc (n / 16), hexc (n % 16)] Tryd.underlying37 Tryd.underlying5 Tryd.underlying9 (fun j hj => by
          have hj2 : j = 0 ∨ j = 1 := by simp at hj; omega
          rcases hj2 with rfl | rfl
          · exact World.cell?_setCell_same _ _ _ c63
          · exact (World.cell?_setCell_other _ _ _ _ (by show (⟨g, 63, none⟩ : Addr) ≠ (⟨g, 63, none⟩ : Addr).add 1; rw [HAd.out.1]; simp)).trans (by rw [HAd.out.1]; exact d64))
        have HBw := Lib.hid (show Below w.heap.size w ((w'.setCell ⟨g, 64, none⟩ (.int .u8 (hexc (n % 16)).toNat)).setCell ⟨g, 63, none⟩ (.int .u8 (hexc (n / 16)).toNat)) from (HB0.out.setCell (p := ⟨g, 64, none⟩) (by rw [HGe.out]; exact Nat.le_refl _) _).setCell (p := ⟨g, 63, none⟩) (by rw [HGe.out]; exact Nat.le_refl _) _)
        have b1 : ¬ (16 : Int) ≤ ((n / 16 : Nat) : Int) := by omega
        have b2 : ((n / 16 : Nat) : Int) < 36 := by omega
        have b3 : (0 : Int) ≤ ((n / 16 : Nat) : Int) := by omega
        clear h17
        generalize n / 16 = q at *
        generalize n % 16 = m at *
        generalize w'.setCell ⟨g, 64, none⟩ (.int .u8 (hexc m).toNat) = W1 at *
        clear c64 f64 d64 h16 hn
        go_wp2_with fail
        go_ret2
        exact ⟨by show _ = Ending.returned (.tuple #[.slice none 0 0, .string (mkS (hexF hexc _))]); rw [HR.out]; rfl, HBw.out⟩
    · have h18 : n / 16 / 16 < 16 := by omega
      have hd : ∀ h : n / 16 / 16 < (⟨#[48, 49, 50, 51, 52, 53, 54, 55, 56, 57, 97, 98, 99, 100, 101, 102, 103, 104, 105, 106, 107, 108, 109, 110, 111, 112, 113, 114, 115, 116, 117, 118, 119, 120, 121, 122]⟩ : ByteArray).size, (⟨#[48, 49, 50, 51, 52, 53, 54, 55, 56, 57, 97, 98, 99, 100, 101, 102, 103, 104, 105, 106, 107, 108, 109, 110, 111, 112, 113, 114, 115, 116, 117, 118, 119, 120, 121, 122]⟩ : ByteArray)[n / 16 / 16] = hexc (n / 16 / 16) := fun h => digs_at (n / 16 / 16) (by omega) h
      have d63 : (w'.setCell ⟨g, 64, none⟩ (.int .u8 (hexc (n % 16)).toNat)).cell? ⟨g, 63, none⟩ = some (.int .u8 0) := by rw [World.cell?_setCell_other _ _ _ _ (by simp)]; exact C63.out
      have e63 : ((w'.setCell ⟨g, 64, none⟩ (.int .u8 (hexc (n % 16)).toNat)).setCell ⟨g, 63, none⟩ (.int .u8 (hexc (n / 16 % 16)).toNat)).cell? ⟨g, 63, none⟩ = some (.int .u8 (hexc (n / 16 % 16)).toNat) := World.cell?_setCell_same _ _ _ d63
      have e64 : ((w'.setCell ⟨g, 64, none⟩ (.int .u8 (hexc (n % 16)).toNat)).setCell ⟨g, 63, none⟩ (.int .u8 (hexc (n / 16 % 16)).toNat)).cell? ⟨g, 64, none⟩ = some (.int .u8 (hexc (n % 16)).toNat) := by rw [World.cell?_setCell_other _ _ _ _ (by simp)]; exact World.cell?_setCell_same _ _ _ c64
      have c62 : ((w'.setCell ⟨g, 64, none⟩ (.int .u8 (hexc (n % 16)).toNat)).setCell ⟨g, 63, none⟩ (.int .u8 (hexc (n / 16 % 16)).toNat)).cell? ⟨g, 62, none⟩ = some (.int .u8 0) := by rw [World.cell?_setCell_other _ _ _ _ (by simp), World.cell?_setCell_other _ _ _ _ (by simp)]; exact C62.out
      have f62 : ((w'.setCell ⟨g, 64, none⟩ (.int .u8 (hexc (n % 16)).toNat)).setCell ⟨g, 63, none⟩ (.int .u8 (hexc (n / 16 % 16)).toNat)).frozen? ⟨g, 62, none⟩ = false := by simpa using F62.out
      have HR := Lib.hid (show hexF hexc n = [hexc (n / 16 / 16), hexc (n / 16 % 16), hexc (n % 16)] by rw [hexF_big hexc n (by omega), hexF_big hexc (n / 16) (by omega), hexF_small hexc (n / 16 / 16) (by omega)]; rfl)
      have HBw := Lib.hid (fun v => show Below w.heap.size w (((w'.setCell ⟨g, 64, none⟩ (.int .u8 (hexc (n % 16)).toNat)).setCell ⟨g, 63, none⟩ (.int .u8 (hexc (n / 16 % 16)).toNat)).setCell ⟨g, 62, none⟩ v) from ((HB0.out.setCell (p := ⟨g, 64, none⟩) (by rw [HGe.out]; exact Nat.le_refl _) _).setCell (p := ⟨g, 63, none⟩) (by rw [HGe.out]; exact Nat.le_refl _) _).setCell (p := ⟨g, 62, none⟩) (by rw [HGe.out]; exact Nat.le_refl _) _)
      have b1 : ¬ (16 : Int) ≤ ((n / 16 / 16 : Nat) : Int) := by omega
      have b2 : ((n / 16 / 16 : Nat) : Int) < 36 := by omega
      have b3 : (0 : Int) ≤ ((n / 16 / 16 : Nat) : Int) := by omega
      clear h16 hn h18 d63
      generalize n / 16 / 16 = q at *
      generalize n / 16 % 16 = mm at *
      generalize n % 16 = m at *
      generalize (w'.setCell ⟨g, 64, none⟩ (.int .u8 (hexc m).toNat)).setCell ⟨g, 63, none⟩ (.int .u8 (hexc mm).toNat) = W1 at *
      have hcv : (convert 37 9 (.slice (some ⟨g, 62, none⟩) 3 3)).run Tryd.prog (W1.setCell ⟨g, 62, none⟩ (.int .u8 (hexc q).toNat)) = .ok (.string (mkS [hexc q, hexc mm, hexc m])) (W1.setCell ⟨g, 62, none⟩ (.int .u8 (hexc q).toNat)) := run_convert_bytes_back (P := Tryd.prog) (W1.setCell ⟨g, 62, none⟩ (.int .u8 (hexc q).toNat)) 37 9 5 ⟨g, 62, none⟩ 3 [hexc q, hexc mm, hexc m] Tryd.underlying37 Tryd.underlying5 Tryd.underlying9 (fun j hj => by
        have hj2 : j = 0 ∨ j = 1 ∨ j = 2 := by simp at hj; omega
        rcases hj2 with rfl | rfl | rfl
        · exact World.cell?_setCell_same _ _ _ c62
        · exact (World.cell?_setCell_other _ _ _ _ (by show (⟨g, 62, none⟩ : Addr) ≠ (⟨g, 62, none⟩ : Addr).add 1; rw [HAd.out.1]; simp)).trans (by rw [HAd.out.1]; exact e63)
        · exact (World.cell?_setCell_other _ _ _ _ (by show (⟨g, 62, none⟩ : Addr) ≠ (⟨g, 62, none⟩ : Addr).add 2; rw [HAd.out.2]; simp)).trans (by rw [HAd.out.2]; exact e64))
      clear c64 f64 e63 e64
      go_wp2_with fail
      go_ret2
      exact ⟨by show _ = Ending.returned (.tuple #[.slice none 0 0, .string (mkS (hexF hexc _))]); rw [HR.out]; rfl, HBw.out _⟩
end Tk
end Go.Proofs.YtdlbmfgajgefdaaDoor
namespace Go.Proofs.YtdlbmfgajgefdaaDoor
open Go.RowKit
namespace Tk

set_option maxHeartbeats 1000000 in
set_option maxRecDepth 100000 in
theorem ifmt_any (n : Nat) (B : Nat) (w : World) (h : Bruijn B w) (hn : n < 4096) :
    Calls Tryd.prog 36 #[.int .i64 n, .int .i64 16] w fun e w' => e = .returned (.string (mkS (hexL n))) ∧ Below w.heap.size w w' := by
  have H := Lib.hid (fmtBits_any n B w h hn)
  have b1 : ¬ (n : Int) < 0 := by omega
  have b2 : (n : Int) < 4096 := by omega
  clear h hn
  go_enter Tryd.func36, Tryd.ntmps36
  go_wp2_with fail
  refine H.out.mono ?_
  rintro e w' ⟨rfl, hb⟩
  have HB := Lib.hid hb
  clear hb
  go_wp2_with fail
  go_ret
  exact ⟨rfl, HB.out⟩
set_option maxHeartbeats 1000000 in
set_option maxRecDepth 100000 in
theorem fmt_any (n : Nat) (B : Nat) (w : World) (h : Bruijn B w) (hn : n < 4096) :
    Calls Tryd.prog 27 #[.int .i64 n, .int .i64 16] w fun e w' => e = .returned (.string (mkS (hexL n))) ∧ Below w.heap.size w w' := by
  have H := Lib.hid (ifmt_any n B w h hn)
  clear h hn
  go_enter Tryd.func27, Tryd.ntmps27
  go_wp2_with fail
  refine H.out.mono ?_
  rintro e w' ⟨rfl, hb⟩
  have HB := Lib.hid hb
  clear hb
  go_wp2_with fail
  go_ret
  exact ⟨rfl, HB.out⟩

/-- the size of a chunk that Encode takes -/
def encK (size : Int) (body : Bs) : Nat := if size < 1 then body.length else size.toNat
def EncPost (body : Bs) (size : Int) (l : List (Bs × Bs)) (w : World) (e : Ending) (w' : World) : Prop :=
  e = .returned (.tuple #[.string (mkS (if okFs l then encL (encK size body) body (linesF l) else [])), .int .i64 (byE l)]) ∧ Below w.heap.size w w'

theorem chunks_len (k : Nat) : ∀ (n : Nat) (l : Bs), l.length ≤ n → l.length < 4096 → (chunksL k l).length ≤ 8 * l.length
  | 0, l, h, h2 => by
    have : l = [] := List.eq_nil_of_length_eq_zero (by omega)
    subst this; rw [chunksL_nil]; simp
  | n + 1, l, h, h2 => by
    by_cases he : l = []
    · subst he; rw [chunksL_nil]; simp
    · by_cases hk : k = 0
      · subst hk; rw [chunksL]; simp
      · have hp := List.length_pos_iff.2 he
        have hd := chunks_len k n (l.drop k) (by simp; omega) (by simp; omega)
        have hx := hexF_len hexc 2 (l.take k).length (by simp; omega)
        have htl : (l.take k).length + (l.drop k).length = l.length := by rw [← List.length_append, List.take_append_drop]
        have ht : 0 < (l.take k).length := by rw [List.length_take]; omega
        rw [chunksL_cons k l he hk]
        simp only [List.length_append, List.length_cons, List.length_nil]
        show (hexF hexc (l.take k).length).length + 2 + (l.take k).length + 2 + (chunksL k (l.drop k)).length ≤ _
        omega

def strLen : Value → Nat
  | .string s => s.size
  | _ => 0
theorem two1310 : (ByteArray.mk #[13, 10]).size = 2 := rfl
theorem three0 : (ByteArray.mk #[48, 13, 10]).size = 3 := rfl

set_option maxHeartbeats 1000000 in
set_option maxRecDepth 100000 in
theorem encode_no (body : ByteArray) (size : Int) (v : Value) (l : List (Bs × Bs)) (w : World) (hs : IsFlds w v l) (hz : sumF l ≤ 1099511) (hl : l.length ≤ 1099511) (hok : okFs l = false) :
    Calls Tryd.prog 18 #[.string body, .int .i64 size, v] w (EncPost (bs body) size l w) := by
  have h := bytes_any v l w hs (by omega) (by omega)
  have e1 : byN l = [] := by unfold byN; rw [hok]; rfl
  have e2 : byE l = 4 := by unfold byE; rw [hok]; rfl
  unfold BytesPost at h
  unfold EncPost
  rw [e1, e2] at h
  rw [e2, hok]
  have H := Lib.hid h
  obtain ⟨a, cap, rfl⟩ : ∃ a cap, v = .slice a l.length cap := by obtain ⟨a, c, h, -⟩ := hs; exact ⟨a, c, h⟩
  clear h hs hz hl hok e1 e2
  go_enter Tryd.func18, Tryd.ntmps18
  go_wp2_with fail
  refine H.out.mono ?_
  rintro e w1 ⟨rfl, hb⟩
  have HB := Lib.hid hb
  clear hb
  go_wp2_with fail
  go_ret2
  exact ⟨rfl, HB.out⟩

set_option maxHeartbeats 8000000 in
set_option maxRecDepth 100000 in
theorem encode_ok (body : ByteArray) (size : Int) (k : Nat) (v : Value) (l : List (Bs × Bs)) (w : World) (hs : IsFlds w v l) (hz : sumF l ≤ 1099511) (hl : l.length ≤ 1099511) (hok : okFs l = true) (hbz : body.size ≤ 400) (hB : Bruijn w.heap.size w)
    (hsz : (size < 1 ∧ k = body.size) ∨ (¬ size < 1 ∧ size = (k : Int) ∧ size ≤ 9223372036854775807)) :
    Calls Tryd.prog 18 #[.string body, .int .i64 size, v] w fun e w' => e = .returned (.tuple #[.string (mkS (encL k (bs body) (linesF l))), .int .i64 0]) ∧ Below w.heap.size w w' := by
  have h := bytes_any v l w hs (by omega) (by omega)
  have e1 : byN l = linesF l := by unfold byN; rw [hok]; rfl
  have e2 : byE l = 0 := by unfold byE; rw [hok]; rfl
  unfold BytesPost at h
  rw [e1, e2] at h
  have hll := lines_len l
  have hk0 : k ≠ 0 ∨ bs body = [] := by
    rcases hsz with ⟨h1, h2⟩ | ⟨h1, h2, h3⟩
    · by_cases h0 : body.size = 0
      · exact .inr (List.eq_nil_of_length_eq_zero (by rw [length_bs]; exact h0))
      · exact .inl (by omega)
    · exact .inl (by omega)
  have HK0 := Lib.hid hk0
  have H := Lib.hid h
  have HLL := Lib.hid (show (linesF l).length ≤ 1099511 by omega)
  have hlen := length_bs body
  have HCL := Lib.hid (chunks_len k _ (bs body) (Nat.le_refl _) (by omega))
  have HLen := Lib.hid hlen
  have HBj := Lib.hid hB
  have hpos : (0 : Int) ≤ (k : Int) ∧ (k : Int) ≤ 9223372036854775807 := by rcases hsz with h | h <;> omega
  obtain ⟨hk1, hk2⟩ := hpos
  have HR := Lib.hid (show encL k (bs body) (linesF l) = chunksL k (bs body) ++ [48, 13, 10] ++ linesF l ++ [13, 10] from rfl)
  generalize linesF l = F at *
  obtain ⟨a, cap, rfl⟩ : ∃ a cap, v = .slice a l.length cap := by obtain ⟨a, c, h, -⟩ := hs; exact ⟨a, c, h⟩
  have hbz2 : body.size ≤ 400 := hbz
  clear h hs hz hl hok e1 e2 hll hk0 hlen hB
  rcases hsz with ⟨h1, h2⟩ | ⟨h1, h2, h3⟩
  all_goals
    first | (clear h3; subst h2) | skip
    go_enter Tryd.func18, Tryd.ntmps18
    go_wp2_with fail
    refine H.out.mono ?_
    rintro e w1 ⟨rfl, hb⟩
    have HB1 := Lib.hid hb
    have HBj1 := Lib.hid (HBj.out.later hb)
    have hB0 := Lib.hid (Lib.fresh_isBuilder 39 5 w1)
    have HB2 := Lib.hid (show Below w1.heap.size w1 (w1.alloc (Obj.cells #[Value.pointer none, Value.slice none 0 0] 39)) from (Below.refl _ _).alloc (Nat.le_refl _) _)
    have hsz1 : w1.heap.size ≤ (w1.alloc (Obj.cells #[Value.pointer none, Value.slice none 0 0] 39)).heap.size := by simp
    have HSw := Lib.hid hb.size
    clear hb
    go_wp2_with fail
    generalize w1.alloc (Obj.cells #[Value.pointer none, Value.slice none 0 0] 39) = W at *
    generalize hgw : w1.heap.size = B at *
    have HGW := Lib.hid hgw
    clear hgw
    try rw [← h2]
    try clear h2
    go_loopw [0] (fun v0 wr => ∃ (r p : Bs), v0 = .string (mkS r) ∧ r.length ≤ body.size ∧ Hid (chunksL k (bs body) = p ++ chunksL k r) ∧ Hid (IsB B B p wr) ∧ Hid (Below B w1 wr) ∧ B ≤ wr.heap.size) (fun v0 _ => strLen v0)
    case atStart => exact ⟨bs body, [], by rw [mkS_bs], by rw [HLen.out]; exact Nat.le_refl _, rfl, hB0.out, HB2.out, hsz1⟩
    case round =>
      obtain ⟨r, p, rfl, hr, hch, hI, hB3, hBw⟩ := hrel
      rename World => W3
      have hpl : p.length ≤ 8 * (bs body).length := by
        have h1 := HCL.out
        rw [hch.out, List.length_append] at h1
        omega
      have HPL := Lib.hid (show p.length ≤ 3200 by rw [HLen.out] at hpl; omega)
      clear hpl
      by_cases hrn : r = []
      · subst hrn
        have hc2 : chunksL k (bs body) = p := by rw [hch.out, chunksL_nil, List.append_nil]
        have HC2 := Lib.hid hc2
        clear hc2
        have hemp : ((mkS ([] : Bs)).toList == ([] : List UInt8)) = true := by rw [toList_bs, bs_mkS]; rfl
        have hemp2 : (mkS ([] : Bs)).toList.isEmpty = true := by rw [toList_bs, bs_mkS]; rfl
        have H1 := Lib.hid (writeString B B p ⟨#[48, 13, 10]⟩ W3 hI.out (by rw [three0]; have := HPL.out; omega) hBw)
        clear hch
        go_wp2_with fail
        refine H1.out.mono ?_
        rintro e w4 ⟨rfl, hi4, hb4, -⟩
        have HB4 := Lib.hid (hB3.out.trans hb4)
        have hs4 := Nat.le_trans hBw hb4.size
        have H2 := Lib.hid (writeString B B _ (mkS F) w4 hi4 (by rw [List.length_append, length_bs, three0, size_mkS]; have := HPL.out; have := HLL.out; omega) hs4)
        clear hi4 hb4
        go_wp2_with fail
        refine H2.out.mono ?_
        rintro e w5 ⟨rfl, hi5, hb5, -⟩
        have HB5 := Lib.hid (HB4.out.trans hb5)
        have hs5 := Nat.le_trans hs4 hb5.size
        have H3 := Lib.hid (writeString B B _ ⟨#[13, 10]⟩ w5 hi5 (by rw [List.length_append, List.length_append, length_bs, length_bs, three0, size_mkS, two1310]; have := HPL.out; have := HLL.out; omega) hs5)
        clear hi5 hb5
        go_wp2_with fail
        refine H3.out.mono ?_
        rintro e w6 ⟨rfl, hi6, hb6, -⟩
        have HB6 := Lib.hid (HB5.out.trans hb6)
        have hs6 := Nat.le_trans hs5 hb6.size
        have H4 := Lib.hid (Tryd.Builder_String_any B B _ w6 hi6 hs6)
        clear hi6 hb6
        go_wp2_with fail
        refine H4.out.mono ?_
        rintro e w7 ⟨rfl, hb7⟩
        have HB7 := Lib.hid (HB6.out.trans hb7)
        clear hb7
        go_wp2_with fail
        go_ret2
        refine ⟨?_, HB1.out.trans (HB7.out.mono HSw.out)⟩
        rw [HR.out, HC2.out]
        simp only [List.append_assoc]
        rfl
      · have hrp : 0 < r.length := List.length_pos_iff.2 hrn
        have hk0 : k ≠ 0 := by
          rcases HK0.out with h | h
          · exact h
          · have := HLen.out
            rw [h] at this
            have h0 : body.size = 0 := by simpa using this.symm
            omega
        obtain ⟨m, hm⟩ : ∃ m, m = min k r.length := ⟨_, rfl⟩
        have hm1 : m ≤ r.length := by omega
        have hm0 : 0 < m := by omega
        have htk : r.take k = r.take m := by
          rcases Nat.le_total k r.length with h | h
          · rw [hm, Nat.min_eq_left h]
          · rw [hm, Nat.min_eq_right h, List.take_of_length_le h, List.take_length]
        have hdk : r.drop k = r.drop m := by
          rcases Nat.le_total k r.length with h | h
          · rw [hm, Nat.min_eq_left h]
          · rw [hm, Nat.min_eq_right h, List.drop_of_length_le h, List.drop_length]
        have hcc := chunksL_cons k r hrn hk0
        rw [htk, hdk, List.length_take, Nat.min_eq_left hm1] at hcc
        have hnx : chunksL k (bs body) = (p ++ hexL m ++ [13, 10] ++ r.take m ++ [13, 10]) ++ chunksL k (r.drop m) := by
          rw [hch.out, hcc]; simp only [List.append_assoc]
        have HNX := Lib.hid hnx
        have zr : (mkS r).size = r.length := size_mkS r
        have hmin : min (k : Int) ((mkS r).size : Int) = (m : Int) := by rw [zr]; omega
        have hx1 : bs ((mkS r).extract 0 m) = r.take m := by rw [bs_extract, bs_mkS]; simp
        have hx2 : (mkS r).extract m (mkS r).size = mkS (r.drop m) := by
          rw [extract_mkS, bs_mkS, zr, List.take_of_length_le (by rw [List.length_drop]; exact Nat.le_refl _)]
        have hemp : ((mkS r).toList == ([] : List UInt8)) = false := by
          rw [toList_bs, bs_mkS]; cases r with | nil => exact absurd rfl hrn | cons _ _ => rfl
        have hemp2 : (mkS r).toList.isEmpty = false := by
          rw [toList_bs, bs_mkS]; cases r with | nil => exact absurd rfl hrn | cons _ _ => rfl
        have hhx : (hexF hexc m).length ≤ 3 := hexF_len hexc 2 m (by omega)
        have h63 : (mkS (hexF hexc m)).size + 2 ≤ 9223372036854775807 := by rw [size_mkS]; omega
        have HX2 := Lib.hid hx2
        have HX1 := Lib.hid hx1
        have HM := Lib.hid (show 0 < m ∧ m ≤ r.length ∧ r.length ≤ body.size ∧ (hexF hexc m).length ≤ 3 from ⟨hm0, hm1, hr, hhx⟩)
        have HFm := Lib.hid (fmt_any m w.heap.size W3 (HBj1.out.later (hB3.out.mono HSw.out)) (by omega))
        have m1 : (0 : Int) ≤ (m : Int) := by omega
        have m2 : (m : Int) ≤ ((mkS r).size : Int) := by rw [zr]; omega
        have m3 : (m : Int) ≤ 400 := by omega
        have hIW := Lib.hid hI.out
        change Hid (Calls Tryd.prog 27 #[.int .i64 m, .int .i64 16] W3 fun e w' => e = .returned (.string (mkS (hexF hexc m))) ∧ Below W3.heap.size W3 w') at HFm
        change Hid (chunksL k (bs body) = (p ++ hexF hexc m ++ [13, 10] ++ r.take m ++ [13, 10]) ++ chunksL k (r.drop m)) at HNX
        clear hch hcc hnx htk hdk hx1 hx2 hm hm0 hm1 hhx hrn hrp zr hr
        generalize hexF hexc m = X at *
        generalize hR : mkS r = R at *
        go_wp2_with fail
        refine HFm.out.mono ?_
        rintro e w4 ⟨rfl, hb⟩
        have hI4 := isB_below hIW.out hb
        have HB4 := Lib.hid (hB3.out.trans (hb.mono hBw))
        have hs4 := Nat.le_trans hBw hb.size
        have H1 := Lib.hid (writeString B B p (mkS X ++ ⟨#[13, 10]⟩) w4 hI4 (by rw [ByteArray.size_append, size_mkS, two1310]; have := HPL.out; have := HM.out; omega) hs4)
        clear hb hI4
        go_wp2_with fail
        refine H1.out.mono ?_
        rintro e w5 ⟨rfl, hi5, hb5, -⟩
        have HB5 := Lib.hid (HB4.out.trans hb5)
        have hs5 := Nat.le_trans hs4 hb5.size
        have H2 := Lib.hid (writeString B B _ (R.extract 0 m) w5 hi5 (by rw [List.length_append, length_bs, ByteArray.size_append, size_mkS, two1310, ← length_bs (R.extract 0 m), HX1.out, List.length_take]; have := HPL.out; have := HM.out; omega) hs5)
        clear hi5 hb5
        go_wp2_with fail
        refine H2.out.mono ?_
        rintro e w6 ⟨rfl, hi6, hb6, -⟩
        have HB6 := Lib.hid (HB5.out.trans hb6)
        have hs6 := Nat.le_trans hs5 hb6.size
        have H3 := Lib.hid (writeString B B _ ⟨#[13, 10]⟩ w6 hi6 (by rw [List.length_append, List.length_append, length_bs, ByteArray.size_append, size_mkS, two1310, HX1.out, List.length_take]; have := HPL.out; have := HM.out; omega) hs6)
        clear hi6 hb6
        go_wp2_with fail
        refine H3.out.mono ?_
        rintro e w7 ⟨rfl, hi7, hb7, -⟩
        have HB7 := Lib.hid (HB6.out.trans hb7)
        have hs7 := Nat.le_trans hs6 hb7.size
        have HI7 : Hid (IsB B B (p ++ X ++ [13, 10] ++ r.take m ++ [13, 10]) w7) := by
          have h := hi7
          rw [HX1.out] at h
          have e1 : bs (mkS X ++ ⟨#[13, 10]⟩) = X ++ [13, 10] := by rw [show (mkS X ++ ⟨#[13, 10]⟩ : ByteArray) = mkS (X ++ [13, 10]) from mkS_append _ [13, 10], bs_mkS]
          rw [e1, ← List.append_assoc] at h
          exact h
        clear hi7 hb7
        go_wp2_with fail
        have hx2 := HX2.out
        rw [hx2]
        exact ⟨⟨r.drop m, p ++ X ++ [13, 10] ++ r.take m ++ [13, 10], rfl, by rw [List.length_drop]; have := HM.out; omega, HNX, HI7, HB7, hs7⟩, by
          show (mkS (r.drop m)).size < R.size
          rw [size_mkS, List.length_drop, ← hR, size_mkS]; have := HM.out; omega⟩

theorem encode_any (body : ByteArray) (size : Int) (v : Value) (l : List (Bs × Bs)) (w : World) (hs : IsFlds w v l) (hz : sumF l ≤ 1099511) (hl : l.length ≤ 1099511) (hbz : body.size ≤ 400) (hB : Bruijn w.heap.size w) (hsz : size ≤ 9223372036854775807) :
    Calls Tryd.prog 18 #[.string body, .int .i64 size, v] w (EncPost (bs body) size l w) := by
  cases hok : okFs l
  · exact encode_no body size v l w hs hz hl hok
  · refine (encode_ok body size (encK size (bs body)) v l w hs hz hl hok hbz hB ?_).mono ?_
    · unfold encK
      by_cases h1 : size < 1
      · rw [if_pos h1, length_bs]; exact .inl ⟨h1, rfl⟩
      · rw [if_neg h1]; exact .inr ⟨h1, by omega, hsz⟩
    · rintro e w' ⟨rfl, hb⟩
      unfold EncPost
      rw [hok]
      have e2 : byE l = 0 := by unfold byE; rw [hok]; rfl
      rw [e2]
      exact ⟨rfl, hb⟩
end Tk
end Go.Proofs.YtdlbmfgajgefdaaDoor
