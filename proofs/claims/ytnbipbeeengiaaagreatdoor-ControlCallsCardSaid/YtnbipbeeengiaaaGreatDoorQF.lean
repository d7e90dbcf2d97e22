/- RngM Str TokB TokC TkA Cut Unq Same, put together. -/
import Derived.Test.YtnbipbeeengiaaaGreatDoorQA
import Derived.RangeFuncFrom
import Derived.RangeFuncWrites
import Derived.RangeFuncIn
import Derived.Test.YtnbipbeeengiaaaGreatDoorQD
import Derived.Test.YtnbipbeeengiaaaGreatDoorQB
import Derived.Shelf.RegionOpenPlain
namespace Go.Proofs.YtnbipbeeengiaaaGreatDoor
open Go.RowKit
namespace Tk

/-- what lies below B0, and what is in M, lies as it lay -/
structure Mine (B0 : Nat) (M : Nat → Prop) (W W' : World) : Prop where
  os : W'.os = W.os
  tape : W'.tape = W.tape
  output : W'.output = W.output
  size : W.heap.size ≤ W'.heap.size
  same : ∀ k, k < W.heap.size → (k < B0 ∨ M k) → W'.heap[k]? = W.heap[k]?

/-- what a round may do: it turns blocks in M, and lays new ones -/
structure Turns (M M' : Nat → Prop) (W W' : World) : Prop where
  size : W.heap.size ≤ W'.heap.size
  same : ∀ k, k < W.heap.size → ¬ M k → W'.heap[k]? = W.heap[k]?
  more : ∀ k, M' k → M k ∨ W.heap.size ≤ k

def AbidesM {α : Type} (B : Nat) (I : List α → (Nat → Prop) → World → Prop) : Prop :=
  ∀ s M W W', I s M W → Mine B M W W' → I s M W'
def KnownM {α : Type} (I : List α → (Nat → Prop) → World → Prop) : Prop := ∀ s M W, I s M W → ∀ k, M k → k < W.heap.size

theorem Mine.refl (B : Nat) (M : Nat → Prop) (W : World) : Mine B M W W := ⟨rfl, rfl, rfl, Nat.le_refl _, fun _ _ _ => rfl⟩
theorem Mine.trans {B : Nat} {M : Nat → Prop} {a b c : World} (h : Mine B M a b) (k : Mine B M b c) : Mine B M a c :=
  ⟨k.os.trans h.os, k.tape.trans h.tape, k.output.trans h.output, Nat.le_trans h.size k.size, fun i hi hm => (k.same i (Nat.lt_of_lt_of_le hi h.size) hm).trans (h.same i hi hm)⟩
theorem Mine.below {B : Nat} {M : Nat → Prop} {W W' : World} (h : Below W.heap.size W W') : Mine B M W W' := ⟨h.os, h.tape, h.output, h.size, fun k hk _ => h.block k hk⟩
theorem Mine.mono {B C : Nat} {M N : Nat → Prop} {W W' : World} (h : Mine B M W W') (hB : C ≤ B) (hM : ∀ k, N k → M k) : Mine C N W W' :=
  ⟨h.os, h.tape, h.output, h.size, fun k hk hc => h.same k hk (hc.elim (fun x => .inl (by omega)) (fun x => .inr (hM k x)))⟩
theorem Mine.alloc (B : Nat) (M : Nat → Prop) (W : World) (o : Obj) : Mine B M W (W.alloc o) := Mine.below ((Below.refl _ _).alloc (Nat.le_refl _) _)
theorem Mine.putObj {B : Nat} {M : Nat → Prop} {W : World} {l : Nat} (o' : Obj) (hB : B ≤ l) (hM : ¬ M l) : Mine B M W (W.putObj l o') :=
  ⟨rfl, rfl, rfl, by simp, fun k _ hc => World.putObj_heap_other (by rintro rfl; exact hc.elim (by omega) hM)⟩
theorem Turns.refl (M : Nat → Prop) (W : World) : Turns M M W W := ⟨Nat.le_refl _, fun _ _ _ => rfl, fun _ h => .inl h⟩
theorem Turns.below {M : Nat → Prop} {W W' : World} (h : Below W.heap.size W W') : Turns M M W W' := ⟨h.size, fun k hk _ => h.block k hk, fun _ h => .inl h⟩
theorem Turns.trans {M N O : Nat → Prop} {a b c : World} (h : Turns M N a b) (k : Turns N O b c) : Turns M O a c :=
  ⟨Nat.le_trans h.size k.size, fun i hi hm => (k.same i (Nat.lt_of_lt_of_le hi h.size) (fun hn => (h.more i hn).elim hm (by omega))).trans (h.same i hi hm), fun i hi => (k.more i hi).elim (fun x => h.more i x) (fun x => .inr (Nat.le_trans h.size x))⟩

/-- a call of yield, in the widest fence -/
def YieldW (P : Program) (l : Nat) (args : Array Value) (W : World) (R : Ending → World → Prop) : Prop := YieldAt Fence.wide 0 P l args W R
theorem roundW {m : Nat} {P : Program} {l : Nat} {f : FuncId} {tmps : Array Value} {assign body : Code} {W : World} {R : Ending → World → Prop} (h : RoundIn Fence.wide 0 P l f tmps assign body W R) : RoundIn Fence.wide m P l f tmps assign body W R :=
  ⟨h.1, fun c cs _ => h.2 c cs (room_wide _)⟩
theorem YieldW.at {m : Nat} {P : Program} {l : Nat} {args : Array Value} {W : World} {R : Ending → World → Prop} (h : YieldW P l args W R) : YieldAt Fence.wide m P l args W R := by
  obtain ⟨fn, tmps, assign, body, h1, h2⟩ := h
  exact ⟨fn, tmps, assign, body, h1, roundW h2⟩
theorem YieldW.inRound {m l' : Nat} {P : Program} {l : Nat} {args : Array Value} {W : World} {R : Ending → World → Prop} (h : YieldW P l args W R) : YieldAt (Fence.wide.inRound l') m P l args W R := h.at (m := m)

/-- the iterator hands over xs, where S holds in every world of the rounds -/
def HandsM {α : Type} (P : Program) (gf : Nat) (lb : Array Value) (encs : α → Array Value) (xs : List α) (S : World → Prop) : Prop :=
  ∀ (l : Nat) (J : List α → (Nat → Prop) → World → Prop) (M : Nat → Prop) (W : World), KnownM J → AbidesM W.heap.size J → (∀ s M W, J s M W → S W) →
    (∀ pre x M W1, J pre M W1 → pre ++ [x] <+: xs → YieldW P l (encs x) W1 fun e W' => e = .returned (.bool true) ∧ ∃ M', J (pre ++ [x]) M' W' ∧ Turns M M' W1 W') →
    J [] M W → Calls P gf (#[.func (.yield l) #[] #[]] ++ lb) W fun e W' => (∃ v, e = .returned v) ∧ ∃ M', J xs M' W'

/-- what a round leaves behind: the body has run to its end -/
def BodyM {α : Type} (I : List α → (Nat → Prop) → World → Prop) (s : List α) (M : Nat → Prop) (W : World) : Exit → Act → World → Prop
  | .normal, _, W' => ∃ M', I s M' W' ∧ Turns M M' W W'
  | _, _, _ => False

theorem range_mx {α : Type} {encs : α → Array Value} {n : Nat} {P : Program} {g : Operand} {ps : Array Tmp} {assign body : Code} {Q : Exit → Act → World → Prop} {a : Act} {w : World}
    {gf : Nat} {lb : Array Value} (hg : a.eval g = .func (.func gf) #[] lb) (eg : ∀ args w, (callFunc gf args).run P w = .ok (.enter gf args) w)
    {xs : List α} {S : World → Prop} (hps : ∀ x, (encs x).size = ps.size) (hseq : HandsM P gf lb encs xs S) (I : List α → (Nat → Prop) → World → Prop) (hK : KnownM I) (hI : AbidesM w.heap.size I) (hS : ∀ s M W, I s M W → S W)
    (M0 : Nat → Prop) (h0 : I [] M0 w) (Ax : α → Act → Nat → World → Prop) (hAx : ∀ x a' z W W', Ax x a' z W → (∀ k, z ≤ k → k < W.heap.size → W'.heap[k]? = W.heap[k]?) → Ax x a' z W')
    (hassign : ∀ (l m : Nat) (x : α) (W : World) (K : Act → World → Prop), (∀ a' W', Below W.heap.size W W' → Ax x a' W.heap.size W' → K a' W') → assign.wpIn (Fence.wide.inRound l) m P (Exit.then K (fun _ _ _ => False)) { tmps := (ps.zip (encs x)).foldl (fun t (p, v) => t.setIfInBounds p v) a.tmps, defers := [] } W)
    (hbody : ∀ (l m : Nat) (pre : List α) (x : α) (M : Nat → Prop) (a' : Act) (z : Nat) (W : World), I pre M W → (∀ k, M k → k < z) → z ≤ W.heap.size → Ax x a' z W → pre ++ [x] <+: xs → body.wpIn (Fence.wide.inRound l) m P (BodyM I (pre ++ [x]) M W) a' W)
    (hdone : ∀ (D : Nat) (M : Nat → Prop) (W : World), w.heap.size ≤ D → ¬ M D → I xs M W → W.heap[D]? = some (.deferred (some [])) → Q .normal { a with defers := { target := .collected D, args := #[] } :: a.defers } W) :
    (Code.rangeFunc g ps assign body).wpIn Fence.wide n P Q a w := by
  refine wpIn_rangeFunc fun fn hfn => ?_
  generalize hB : w.heap.size = B at *
  let rc : LoopState → Loop := fun st => { state := st, pending := none, fn, tmps := a.tmps, params := ps, assign, body, defers := B }
  let W1 : World := (w.alloc (.deferred (some []))).alloc (.loop (rc .ready))
  have hs1 : W1.heap.size = B + 2 := by show ((w.alloc _).alloc _).heap.size = _; simp [hB]
  have hl1 : W1.heap[B + 1]? = some (.loop (rc .ready)) := by
    have := World.alloc_heap_new (w.alloc (.deferred (some []))) (.loop (rc .ready))
    rw [World.size_alloc, hB] at this
    exact this
  have hd1 : W1.heap[B]? = some (.deferred (some [])) := by
    have h2 := World.alloc_heap_new w (.deferred (some []))
    rw [hB] at h2
    exact (Below.heap_alloc _ _ _ (by simp [hB])).trans h2
  have hi1 : I [] M0 W1 := hI _ _ _ _ (hI _ _ _ _ h0 (Mine.alloc _ _ _ _)) (Mine.alloc _ _ _ _)
  have hM0 : ∀ k, M0 k → k < B := fun k hk => hB ▸ hK _ _ _ h0 k hk
  refine ⟨B + 1, [{ target := .collected B, args := #[] }], W1, { target := .fn (.func gf) lb, args := #[.func (.yield (B + 1)) #[] #[]] }, W1, gf, #[.func (.yield (B + 1)) #[] #[]] ++ lb, W1, ?_, ?_, ?_, ?_, fun h => absurd h (by decide), ?_⟩
  · have := run_enterLoop_outer (P := P) (w := w) fn a.tmps ps assign body
    rw [hB] at this
    exact this
  · simp only [resolve, hg]
    simp [go_sem]
  · intro f' _
    trivial
  · simp [invoke, go_sem, eg]
  · let J : List α → (Nat → Prop) → World → Prop := fun pre M W => ∃ N, I pre N W ∧ (∀ k, M k ↔ (N k ∨ k = B + 1)) ∧ ¬ N B ∧ ¬ N (B + 1) ∧ W.heap[B + 1]? = some (.loop (rc .ready)) ∧ W.heap[B]? = some (.deferred (some []))
    have hJK : KnownM J := by
      rintro s M W ⟨N, i, hm, -, -, hl, -⟩ k hk
      rcases (hm k).1 hk with h | rfl
      · exact hK _ _ _ i k h
      · exact (Array.getElem?_eq_some_iff.1 hl).1
    have hJ : AbidesM W1.heap.size J := by
      rintro s M W W' ⟨N, i, hm, n0, n1, hl, hd⟩ hM
      refine ⟨N, hI _ _ _ _ i (hM.mono (by omega) (fun k hk => (hm k).2 (.inl hk))), hm, n0, n1, ?_, ?_⟩
      · exact (hM.same _ (Array.getElem?_eq_some_iff.1 hl).1 (.inl (by omega))).trans hl
      · exact (hM.same _ (Array.getElem?_eq_some_iff.1 hd).1 (.inl (by omega))).trans hd
    have hcall := hseq (B + 1) J (fun k => M0 k ∨ k = B + 1) W1 hJK hJ (fun s M W ⟨N, i, _⟩ => hS _ _ _ i) ?_ ⟨M0, hi1, fun _ => Iff.rfl, fun h => absurd (hM0 _ h) (by omega), fun h => absurd (hM0 _ h) (by omega), hl1, hd1⟩
    · refine callsIn_wide.2 (hcall.mono ?_)
      rintro e W2 ⟨⟨v, rfl⟩, M, N, i, hm, n0, n1, hl, hd⟩
      refine ⟨none, _, run_endLoop (P := P) hl (by simp [rc]), ?_⟩
      exact hdone B N _ (Nat.le_refl _) n0 (hI _ _ _ _ i (Mine.putObj _ (by omega) n1)) ((World.putObj_heap_other (by omega)).trans hd)
    · rintro pre x M W ⟨N, i, hm, n0, n1, hl, hd⟩ hpre
      have hlt : B + 1 < W.heap.size := (Array.getElem?_eq_some_iff.1 hl).1
      refine ⟨fn, _, assign, body, run_yield (P := P) (args := encs x) hl (hps x), roundIn_of_wpIn hfn (hassign _ _ x W _ ?_)⟩
      intro a' Wa hba hax
      have hla : Wa.heap[B + 1]? = some (.loop (rc .ready)) := (hba.block _ hlt).trans hl
      have hda : Wa.heap[B]? = some (.deferred (some [])) := (hba.block _ (Array.getElem?_eq_some_iff.1 hd).1).trans hd
      have hza := hba.size
      have hNz : ∀ k, N k → k < W.heap.size := hK _ _ _ i
      have ia : I pre N Wa := hI _ _ _ _ i (Mine.below hba)
      refine ⟨_, run_beginRound hla rfl, ?_⟩
      generalize hW2 : Wa.putObj (B + 1) (.loop { rc .ready with state := .busy }) = W2
      have j2 : W2.heap[B + 1]? = some (.loop { rc .ready with state := .busy }) := by rw [← hW2]; exact World.putObj_heap_same (Nat.lt_of_lt_of_le hlt hza)
      have jo : ∀ k, k ≠ B + 1 → W2.heap[k]? = Wa.heap[k]? := fun k hk => by rw [← hW2]; exact World.putObj_heap_other hk
      have jz : W2.heap.size = Wa.heap.size := by rw [← hW2]; simp
      have jI : I pre N W2 := by rw [← hW2]; exact hI _ _ _ _ ia (Mine.putObj _ (by omega) n1)
      have jA : Ax x a' W.heap.size W2 := hAx _ _ _ _ _ hax (fun k hk _ => jo k (by omega))
      refine wpIn_mono (hbody _ _ pre x N a' W.heap.size W2 jI hNz (by omega) jA hpre) ?_
      rintro e a3 W3 hp
      cases e with
      | normal =>
        obtain ⟨N', i', T⟩ := hp
        have l2 := (T.same (B + 1) (by omega) n1).trans j2
        have hlt3 := (Array.getElem?_eq_some_iff.1 l2).1
        have l3 : W3.heap[B]? = some (.deferred (some [])) := (T.same B (by omega) n0).trans ((jo B (by omega)).trans hda)
        have m0 : ¬ N' B := fun h => (T.more _ h).elim n0 (by omega)
        have m1 : ¬ N' (B + 1) := fun h => (T.more _ h).elim n1 (by omega)
        have hend := run_endRound (P := P) none l2
        refine ⟨_, _, hend, rfl, fun k => N' k ∨ k = B + 1, ⟨N', hI _ _ _ _ i' (Mine.putObj _ (by omega) m1), fun _ => Iff.rfl, m0, m1, World.putObj_heap_same hlt3, (World.putObj_heap_other (by omega)).trans l3⟩, ?_, ?_, ?_⟩
        · have := T.size; simp; omega
        · intro k hk hnk
          have hk1 : k ≠ B + 1 := fun e => hnk ((hm k).2 (.inr e))
          exact (World.putObj_heap_other hk1).trans ((T.same k (by omega) (fun h => hnk ((hm k).2 (.inl h)))).trans ((jo k hk1).trans (hba.block k hk)))
        · rintro k (h | rfl)
          · rcases T.more k h with h | h
            · exact .inl ((hm k).2 (.inl h))
            · exact .inr (by omega)
          · exact .inl ((hm _).2 (.inr rfl))
      | ret => exact hp.elim
      | exit id => exact hp.elim
      | goto t => exact hp.elim
      | panic ch => exact hp.elim
      | outgrown => exact hp.elim

/-- where the loop's own assignments lay nothing -/
theorem range_m {α : Type} {encs : α → Array Value} {n : Nat} {P : Program} {g : Operand} {ps : Array Tmp} {assign body : Code} {Q : Exit → Act → World → Prop} {a : Act} {w : World}
    {gf : Nat} {lb : Array Value} (hg : a.eval g = .func (.func gf) #[] lb) (eg : ∀ args w, (callFunc gf args).run P w = .ok (.enter gf args) w)
    {xs : List α} {S : World → Prop} (hps : ∀ x, (encs x).size = ps.size) (hseq : HandsM P gf lb encs xs S) (I : List α → (Nat → Prop) → World → Prop) (hK : KnownM I) (hI : AbidesM w.heap.size I) (hS : ∀ s M W, I s M W → S W)
    (M0 : Nat → Prop) (h0 : I [] M0 w) (a₁ : α → Act)
    (hassign : ∀ (l m : Nat) (x : α) (W : World) (K : Act → World → Prop), K (a₁ x) W → assign.wpIn (Fence.wide.inRound l) m P (Exit.then K (fun _ _ _ => False)) { tmps := (ps.zip (encs x)).foldl (fun t (p, v) => t.setIfInBounds p v) a.tmps, defers := [] } W)
    (hbody : ∀ (l m : Nat) (pre : List α) (x : α) (M : Nat → Prop) (W : World), I pre M W → pre ++ [x] <+: xs → body.wpIn (Fence.wide.inRound l) m P (BodyM I (pre ++ [x]) M W) (a₁ x) W)
    (hdone : ∀ (D : Nat) (M : Nat → Prop) (W : World), w.heap.size ≤ D → ¬ M D → I xs M W → W.heap[D]? = some (.deferred (some [])) → Q .normal { a with defers := { target := .collected D, args := #[] } :: a.defers } W) :
    (Code.rangeFunc g ps assign body).wpIn Fence.wide n P Q a w :=
  range_mx hg eg hps hseq I hK hI hS M0 h0 (fun x a' _ _ => a' = a₁ x) (fun _ _ _ _ _ h _ => h)
    (fun l m x W K hk => hassign l m x W K (hk _ _ (Below.refl _ _) rfl)) (fun l m pre x M a' _ W i _ _ e hp => by subst e; exact hbody l m pre x M W i hp) hdone
end Tk
end Go.Proofs.YtnbipbeeengiaaaGreatDoor
namespace Go.Proofs.YtnbipbeeengiaaaGreatDoor
open Go.RowKit
namespace Tk

def strs (P : List Bs) : List Value := P.map fun t => .string (mkS t)
theorem strs_append (P Q : List Bs) : strs (P ++ Q) = strs P ++ strs Q := by simp [strs]
theorem strInfo : (Tryz.prog.info? 9).map (fun i => (i.zero, i.size, i.bytes)) = some (some (.string .empty), 1, 16) := by kernel_rfl

def ListPost (base : Nat) (Q : List Bs) (w : World) (r : Ending) (w' : World) : Prop :=
  ∃ v, r = .returned v ∧ w'.ownsRow base 9 1 v Q.length (strs Q) ∧ Below base w w'

theorem below_of_grown {a b : World} {B : Nat} {v : Value} {n : Nat} {xs : List Value} {e : TypeId} (h : a.grownBy b v.ownBlock) (ho : a.ownsRow B e 1 v n xs) (hB : B ≤ a.heap.size) : Below B a b :=
  (Below.refl B a).grown h hB fun k hk => (ho.lt k hk).1
end Tk
end Go.Proofs.YtnbipbeeengiaaaGreatDoor
namespace Go.Proofs.YtnbipbeeengiaaaGreatDoor
open Go.RowKit
namespace Tk

set_option maxHeartbeats 400000 in
theorem appendPart_any (base : Nat) (v : Value) (P : List Bs) (s : ByteArray) (w : World) (hown : w.ownsRow base 9 1 v P.length (strs P)) (hB : base ≤ w.heap.size) (hs : s.size ≤ 1099511627776) (hP : P.length ≤ 4398046511104) :
    Calls Tryz.prog 141 #[v, .string s] w (ListPost base (P ++ addP (trimL (bs s))) w) := by
  obtain ⟨i0, hi, hz0, hz1, hz2⟩ := info_parts strInfo
  have HT := Lib.hid (trim_any s w hs)
  have HO := Lib.hid hown
  have hl := trim_sublist (bs s)
  rw [length_bs] at hl
  clear hown
  generalize trimL (bs s) = t at *
  by_cases he : t = []
  · subst he
    have hne : (mkS []).toList.isEmpty = true := by rw [toList_bs]; rfl
    go_enter Tryz.func141, Tryz.ntmps141
    go_wp2_with fail
    refine HT.out.mono ?_
    rintro e w' ⟨rfl, hb⟩
    have HB := Lib.hid hb
    clear hb
    go_wp2_with fail
    go_ret
    refine ⟨v, rfl, ?_, HB.out.mono hB⟩
    have e : P ++ addP [] = P := by simp [addP]
    rw [e]
    exact World.ownsRow.kept HO.out (row := none) ⟨HB.out.os, HB.out.tape, HB.out.output, HB.out.size, fun k hk _ => HB.out.block k hk⟩ (by cases h : v.ownBlock <;> simp)
  · have hne : (mkS t).toList.isEmpty = false := by rw [toList_bs, bs_mkS]; simpa using he
    have hadd : addP t = [t] := by unfold addP; rw [if_neg he]
    go_enter Tryz.func141, Tryz.ntmps141
    go_wp2_with fail
    refine HT.out.mono ?_
    rintro e w' ⟨rfl, hb⟩
    have hown' : w'.ownsRow base 9 1 v P.length (strs P) := World.ownsRow.kept HO.out (row := none) ⟨hb.os, hb.tape, hb.output, hb.size, fun k hk _ => hb.block k hk⟩ (by cases h : v.ownBlock <;> simp)
    have hB' : base ≤ w'.heap.size := Nat.le_trans hB hb.size
    have HB := Lib.hid (hb.mono hB)
    clear hb
    go_wp2_with (at_builtin; refine wpList_append_own _ rfl _ _ 26 rfl base 9 i0 (.string .empty) 1 16 Tryz.underlying26 hi hz0 hz1 hz2 rfl (by decide) _ _ _ rfl (hown'.alloc _) ⟨w'.heap.size, 0, none⟩ 1 1 [.string (mkS t)] rfl rfl ?c1 ?c2 ?c3 ?c4 ?c5 ?_)
    case c1 => exact cell_one_new _ _ _
    case c2 => simp [Value.oneCell']
    case c3 => unfold maxLen; omega
    case c4 => omega
    case c5 => simp; omega
    intro v' w1 hown1 hg1 _
    have hb1 : Below base w w1 := HB.out.trans (((Below.refl base w').alloc hB' _).trans (below_of_grown hg1 (hown'.alloc _) (by simp; omega)))
    have HB1 := Lib.hid hb1
    have HO1 := Lib.hid hown1
    clear hb1 hown1 hg1
    go_wp2_with fail
    go_ret
    refine ⟨v', rfl, ?_, HB1.out⟩
    rw [hadd, List.length_append, strs_append]
    exact HO1.out
end Tk
end Go.Proofs.YtnbipbeeengiaaaGreatDoor
namespace Go.Proofs.YtnbipbeeengiaaaGreatDoor
open Go.RowKit
namespace Tk

set_option maxHeartbeats 1000000 in
theorem split_any (s : ByteArray) (w : World) (hs : s.size ≤ 1099511627776) :
    Calls Tryz.prog 113 #[.string s] w (ListPost w.heap.size (splitL (bs s)) w) := by
  have HL := Lib.hid (length_bs s)
  go_enter Tryz.func113, Tryz.ntmps113
  go_wp2_with fail
  go_loopw [3, 4, 5] (fun v vb vi wr => ∃ (i b : Nat) (P : List Bs), i ≤ s.size + 2 ∧ b ≤ s.size ∧ b ≤ i ∧ P.length ≤ i ∧ vi = .int .i64 i ∧ vb = .int .i64 b ∧ Hid (wr.ownsRow w.heap.size 9 1 v P.length (strs P)) ∧ Hid (Below w.heap.size w wr) ∧ Hid (splitL (bs s) = P ++ splAt (bs s) b i)) (fun _ _ vi _ => s.size + 2 - (RowKit.intOf vi).toNat)
  case atStart => exact ⟨0, 0, [], by omega, by omega, by omega, by simp, rfl, rfl, World.ownsRow_nil _ _ _ _, Below.refl _ _, splAt_start _⟩
  case round =>
    obtain ⟨i, b, P, hi, hb, hbi, hP, rfl, rfl, HO, HB, HS⟩ := hrel
    rename World => W
    rename Value => v
    by_cases hlt : i < s.size
    · have hgd := getD_bs s i hlt
      have HG := Lib.hid hgd
      clear hgd
      have hll : i < (bs s).length := by rw [HL.out]; exact hlt
      have HLL := Lib.hid hll
      clear hll
      go_wp2_with fail
      · have h34 : ((s[i].toNat : Int) == 34) = true := by assumption
        have e := HG.out.trans (u8_is s[i] 34 (by omega) h34)
        have hcl := closeLen_le ((bs s).drop (i + 1))
        rw [List.length_drop, HL.out] at hcl
        have H2 : Hid (splitL (bs s) = P ++ splAt (bs s) b (closing (bs s) i + 1)) := by
          show _ = _
          rw [HS.out, splAt_quote (bs s) b i HLL.out hbi e]; rfl
        have hc0 : i + 1 ≤ closing (bs s) i := by unfold closing; omega
        have hc1 : closing (bs s) i ≤ s.size + 1 := by unfold closing; omega
        clear hcl
        refine (closing_any s i _ hs hlt).mono ?_
        rintro e w' ⟨rfl, rfl⟩
        generalize closing (bs s) i = j at *
        go_wp2_with fail
        go_roundw
        case rel => exact ⟨j + 1, b, P, by omega, by omega, by omega, by omega, by go_num, rfl, HO, HB, H2⟩
        case measure => simp [RowKit.intOf]; omega
      · have h44 : ((s[i].toNat : Int) == 44) = true := by assumption
        have e := HG.out.trans (u8_is s[i] 44 (by omega) h44)
        refine (appendPart_any w.heap.size _ P (s.extract b i) _ HO.out HB.out.size (by rw [← length_bs, bs_extract, List.length_take]; omega) (by omega)).mono ?_
        rintro e w' ⟨v', rfl, ho', hb'⟩
        have H2 : Hid (splitL (bs s) = (P ++ addP (trimL (bs (s.extract b i)))) ++ splAt (bs s) (i + 1) (i + 1)) := by
          show _ = _
          rw [HS.out, splAt_comma (bs s) b i HLL.out e, bs_extract, List.append_assoc]
        have HB2 := Lib.hid (HB.out.trans hb')
        have HO2 := Lib.hid ho'
        clear hb' ho'
        have hlen : (P ++ addP (trimL (bs (s.extract b i)))).length ≤ i + 1 := by
          rw [List.length_append]; unfold addP; split <;> simp <;> omega
        generalize P ++ addP (trimL (bs (s.extract b i))) = P2 at *
        go_wp2_with fail
        go_roundw
        case rel => exact ⟨i + 1, i + 1, P2, by omega, by omega, by omega, by omega, by go_num, by go_num, HO2, HB2, H2⟩
        case measure => simp [RowKit.intOf]; omega
      · have h34 : ((s[i].toNat : Int) == 34) = false := by assumption
        have h44 : ((s[i].toNat : Int) == 44) = false := by assumption
        have n34 : (bs s).getD i 0 ≠ 34 := fun h => u8_not s[i] 34 h34 (by omega) (HG.out.symm.trans h)
        have n44 : (bs s).getD i 0 ≠ 44 := fun h => u8_not s[i] 44 h44 (by omega) (HG.out.symm.trans h)
        refine ⟨⟨i + 1, b, P, by omega, by omega, by omega, by omega, by go_num, rfl, HO, HB, ?_⟩, by simp [RowKit.intOf]; omega⟩
        show _ = _
        rw [HS.out, splAt_other (bs s) b i HLL.out hbi n44 n34]
    · go_wp2_with fail
      refine (appendPart_any w.heap.size _ P (s.extract b s.size) _ HO.out HB.out.size (by rw [← length_bs, bs_extract, List.length_take]; omega) (by omega)).mono ?_
      rintro e w' ⟨v', rfl, ho', hb'⟩
      have H2 : Hid (splitL (bs s) = P ++ addP (trimL (bs (s.extract b s.size)))) := by
        show _ = _
        rw [HS.out, splAt_end (bs s) b i (by rw [HL.out]; omega), bs_extract, List.take_of_length_le (by rw [List.length_drop, HL.out]; exact Nat.le_refl _)]
      have HB2 := Lib.hid (HB.out.trans hb')
      have HO2 := Lib.hid ho'
      clear hb' ho'
      go_wp2_with fail
      go_ret
      refine ⟨v', rfl, ?_, HB2.out⟩
      rw [H2.out]
      exact HO2.out
end Tk
end Go.Proofs.YtnbipbeeengiaaaGreatDoor
namespace Go.Proofs.YtnbipbeeengiaaaGreatDoor
open Go.RowKit
namespace Tk

set_option maxHeartbeats 1000000 in
set_option maxRecDepth 100000 in
theorem token_any (s : ByteArray) (w : World) (hs : s.size ≤ 1099511627776) :
    Calls Tryz.prog 115 #[.string s] w fun e w' => e = .returned (.bool (!(bs s).isEmpty && allL 2 (bs s))) ∧ Below w.heap.size w w' := by
  have H := Lib.hid (all_any s 2 w hs)
  cases hb : (bs s).isEmpty
  · have he : s.toList.isEmpty = false := by rw [toList_bs]; exact hb
    clear hb
    go_enter Tryz.func115, Tryz.ntmps115
    go_wp2_with fail
    refine H.out.mono ?_
    rintro e w' ⟨rfl, hb⟩
    have HB := Lib.hid hb
    clear hb
    go_wp2_with fail
    go_ret
    exact ⟨rfl, HB.out⟩
  · have he : s.toList.isEmpty = true := by rw [toList_bs]; exact hb
    clear hb
    go_enter Tryz.func115, Tryz.ntmps115
    go_wp2_with fail
    go_ret
    exact ⟨rfl, Below.refl _ _⟩
end Tk
end Go.Proofs.YtnbipbeeengiaaaGreatDoor
namespace Go.Proofs.YtnbipbeeengiaaaGreatDoor
open Go.RowKit
namespace Tk

def CutPost (c : UInt8) (l : Bs) (w : World) (e : Ending) (w' : World) : Prop := e = .returned (.tuple #[.string (mkS (cutL c l).1), .string (mkS (cutL c l).2.1), .bool (cutL c l).2.2]) ∧ ∃ n, w' = w.drewN n

set_option maxHeartbeats 2000000 in
set_option maxRecDepth 100000 in
theorem slcut_any (s : ByteArray) (c : UInt8) (w : World) (hs : s.size ≤ 1099511627776) :
    Calls Tryz.prog 142 #[.string s, .string ⟨#[c]⟩] w (CutPost c (bs s) w) := by
  have H := Lib.hid (fun W : World => Tryz.stringslite_Index_one s c W)
  have hz : (⟨#[c]⟩ : ByteArray).size = 1 := rfl
  rcases cut_index c (bs s) with ⟨h1, h2⟩ | ⟨i, h1, hi, h2, h3, h4⟩
  · have e1 : cutL c (bs s) = (bs s, [], false) := by unfold cutL; rw [h2]; rfl
    have E1 := Lib.hid e1
    have H1 := Lib.hid h1
    clear h1 h2 e1
    go_enter Tryz.func142, Tryz.ntmps142
    go_wp2_with fail
    refine (H.out _).mono ?_
    rintro e w' ⟨rfl, rfl⟩
    rw [show Lib.indexByte s.data.toList c = -1 from H1.out]
    go_wp2_with fail
    go_ret3
    exact ⟨by rw [E1.out, mkS_bs]; rfl, 0, rfl⟩
  · have e1 : cutL c (bs s) = ((bs s).take i, (bs s).drop (i + 1), true) := by unfold cutL; rw [h2, if_pos rfl, h3, h4]
    rw [length_bs] at hi
    have E1 := Lib.hid e1
    have H1 := Lib.hid h1
    clear h1 h2 h3 h4 e1
    have c1 : (0 : Int) ≤ ↑i := by omega
    have c2 : (↑i : Int) ≤ ↑s.size := by omega
    have c3 : (0 : Int) ≤ ↑i + 1 := by omega
    have c4 : (↑i + 1 : Int) ≤ ↑s.size := by omega
    go_enter Tryz.func142, Tryz.ntmps142
    go_wp2_with fail
    refine (H.out _).mono ?_
    rintro e w' ⟨rfl, rfl⟩
    rw [show Lib.indexByte s.data.toList c = (i : Int) from H1.out]
    go_wp2_with fail
    go_quiet (fail)
    go_wp2
    go_ret3
    refine ⟨?_, _, rfl⟩
    rw [E1.out]
    have a1 : s.extract 0 i = mkS ((bs s).take i) := by rw [extract_mkS]; simp
    have a2 : s.extract (i + 1) s.size = mkS ((bs s).drop (i + 1)) := by
      rw [extract_mkS, List.take_of_length_le (by rw [List.length_drop, length_bs]; exact Nat.le_refl _)]
    simp only [← a1, ← a2]
    rfl

set_option maxHeartbeats 1000000 in
theorem cut_any (s : ByteArray) (c : UInt8) (w : World) (hs : s.size ≤ 1099511627776) :
    Calls Tryz.prog 114 #[.string s, .string ⟨#[c]⟩] w (CutPost c (bs s) w) := by
  have H := Lib.hid (slcut_any s c w hs)
  go_enter Tryz.func114, Tryz.ntmps114
  go_wp2_with fail
  refine H.out.mono ?_
  rintro e w' ⟨rfl, hn⟩
  have HN := Lib.hid hn
  clear hn
  go_wp2_with fail
  go_ret3
  exact ⟨rfl, HN.out⟩
end Tk
end Go.Proofs.YtnbipbeeengiaaaGreatDoor
namespace Go.Proofs.YtnbipbeeengiaaaGreatDoor
open Go.RowKit
namespace Tk

theorem unq_short (l : Bs) (h : l.length ≤ 1) : unq l = [] := by
  match l, h with
  | [], _ => rfl
  | [_], _ => rfl

set_option maxHeartbeats 1000000 in
set_option maxRecDepth 100000 in
theorem unquote_no (s : ByteArray) (w : World) (hs : s.size ≤ 1099511627) (h : unqOk (bs s) = false) :
    Calls Tryz.prog 116 #[.string s] w fun e w' => e = .returned (.tuple #[.string .empty, .int .i64 4]) ∧ Below w.heap.size w w' := by
  by_cases h0 : s.size = 0
  · have he := empty_of s h0
    clear h h0
    go_enter Tryz.func116, Tryz.ntmps116
    go_wp2_with fail
    go_ret2
    exact ⟨rfl, Below.refl _ _⟩
  · have hp : 0 < s.size := by omega
    have he := not_empty_of s hp
    have HH := Lib.hid (bs_head s hp)
    have HO := Lib.hid h
    clear h0 h
    by_cases hq : ((s[0].toNat : Int) != 34) = true
    · clear HH HO
      go_enter Tryz.func116, Tryz.ntmps116
      go_wp2_with fail
      go_ret2
      exact ⟨rfl, Below.refl _ _⟩
    · have hq' : ((s[0].toNat : Int) != 34) = false := by simpa using hq
      have e34 : s[0] = 34 := UInt8.toNat_inj.1 (by rw [bne_eq_false_iff_eq] at hq'; show s[0].toNat = 34; omega)
      have HC := Lib.hid (closing_any s 0 w (by omega) hp)
      have hb : ∀ c : Nat, closing (bs s) 0 = c → (decide (c + 1 = s.size) && allL 1 (bs s)) = false := by
        intro c hc
        have := HO.out
        unfold unqOk at this
        rw [HH.out, e34, hc, length_bs] at this
        simpa using this
      have HB := Lib.hid (hb _ rfl)
      clear hq hb e34 HO HH
      have HA := Lib.hid (all_any s 1 w (by omega))
      generalize closing (bs s) 0 = c at *
      by_cases hc : ((c : Int) != (s.size : Int) - 1) = true
      · clear HB HA
        go_enter Tryz.func116, Tryz.ntmps116
        go_wp2_with fail
        refine HC.out.mono ?_
        rintro e w' ⟨rfl, rfl⟩
        go_wp2_with fail
        go_ret2
        exact ⟨rfl, Below.refl _ _⟩
      · have hc' : ((c : Int) != (s.size : Int) - 1) = false := by simpa using hc
        have hal : allL 1 (bs s) = false := by
          have := HB.out
          rw [bne_eq_false_iff_eq] at hc'
          rw [decide_eq_true (by omega)] at this
          simpa using this
        have HA2 := HA.out
        rw [hal] at HA2
        have HA3 := Lib.hid HA2
        clear hc HB hal HA HA2
        go_enter Tryz.func116, Tryz.ntmps116
        go_wp2_with fail
        refine HC.out.mono ?_
        rintro e w' ⟨rfl, rfl⟩
        go_wp2_with fail
        refine HA3.out.mono ?_
        rintro e w' ⟨rfl, hb⟩
        have HB := Lib.hid hb
        clear hb
        go_wp2_with fail
        go_ret2
        exact ⟨rfl, HB.out⟩

set_option maxHeartbeats 1000000 in
set_option maxRecDepth 100000 in
theorem unquote_yes (s : ByteArray) (w : World) (hs : s.size ≤ 1099511627) (h : unqOk (bs s) = true) :
    Calls Tryz.prog 116 #[.string s] w fun e w' => e = .returned (.tuple #[.string (mkS (unq ((bs s).drop 1))), .int .i64 0]) ∧ Below w.heap.size w w' := by
  unfold unqOk at h
  rw [Bool.and_eq_true, Bool.and_eq_true, decide_eq_true_eq, decide_eq_true_eq] at h
  obtain ⟨⟨h1, h2⟩, h3⟩ := h
  rw [length_bs] at h2
  have hp : 0 < s.size := by omega
  have he := not_empty_of s hp
  rw [bs_head s hp] at h1
  injection h1 with h1
  have hq' : ((s[0].toNat : Int) != 34) = false := by rw [h1]; rfl
  have HC := Lib.hid (closing_any s 0 w (by omega) hp)
  have HA := all_any s 1 w (by omega)
  rw [h3] at HA
  have HA3 := Lib.hid HA
  clear h1 h3 HA
  generalize closing (bs s) 0 = c at *
  have hc' : ((c : Int) != (s.size : Int) - 1) = false := by rw [bne_eq_false_iff_eq]; omega
  have hp2 : 1 ≤ s.size := hp
  clear h2
  go_enter Tryz.func116, Tryz.ntmps116
  go_wp2_with fail
  refine HC.out.mono ?_
  rintro e w' ⟨rfl, rfl⟩
  go_wp2_with fail
  refine HA3.out.mono ?_
  rintro e w1 ⟨rfl, hb⟩
  have HB := Lib.hid hb
  clear hb
  go_wp2_with fail
  have hB0 := Lib.hid (Lib.fresh_isBuilder 84 5 w1)
  have HB1 := Lib.hid (HB.out.alloc HB.out.size (Obj.cells #[Value.pointer none, Value.slice none 0 0] 84))
  have hsz : w1.heap.size ≤ (w1.alloc (Obj.cells #[Value.pointer none, Value.slice none 0 0] 84)).heap.size := by simp
  have hw1 := HB.out.size
  generalize w1.alloc (Obj.cells #[Value.pointer none, Value.slice none 0 0] 84) = W at *
  generalize w1.heap.size = B at *
  go_loopw [5] (fun v wr => ∃ (i : Nat) (P : Bs), 1 ≤ i ∧ i ≤ s.size ∧ P.length ≤ i ∧ v = .int .i64 i ∧ Hid (IsB B B P wr) ∧ Hid (Below w.heap.size w wr) ∧ B ≤ wr.heap.size ∧ Hid (unq ((bs s).drop 1) = P ++ unq ((bs s).drop i))) (fun v _ => s.size - (RowKit.intOf v).toNat)
  case atStart => exact ⟨1, [], Nat.le_refl _, hp2, by simp, rfl, hB0.out, HB1.out, hsz, rfl⟩
  case round =>
    obtain ⟨i, P, h1i, hi, hP, rfl, hI, hB3, hBw, hU⟩ := hrel
    rename World => W3
    by_cases hlt : i + 1 < s.size
    · have hlt1 : i < s.size := by omega
      have hI1 : (i : Int) < (s.size : Int) - 1 := by omega
      have d1 := bs_drop s i hlt1
      have d2 := bs_drop s (i + 1) hlt
      have D1 := Lib.hid d1
      have D2 := Lib.hid d2
      clear d1 d2
      by_cases h92 : ((s[i].toNat : Int) == 92) = true
      · have hnext : unq ((bs s).drop 1) = (P ++ [s[i + 1]]) ++ unq ((bs s).drop (i + 2)) := by
          rw [hU.out, D1.out, D2.out, u8_is s[i] 92 (by omega) h92]
          show P ++ unq (92 :: _ :: _) = _
          rw [unq_bs]; simp
        have HN := Lib.hid hnext
        clear hnext
        have H2 := Lib.hid (writeByte B B P s[i + 1] W3 hI.out (by omega) hBw)
        go_wp2_with fail
        refine H2.out.mono ?_
        rintro e w5 ⟨rfl, hi5, hb5⟩
        have HI5 := Lib.hid hi5
        have HB5 := Lib.hid (hB3.out.trans (hb5.mono hw1))
        have hBw5 := Nat.le_trans hBw hb5.size
        clear hi5 hb5
        go_wp2_with fail
        exact ⟨⟨i + 2, P ++ [s[i + 1]], by omega, by omega, by simp; omega, by go_num, HI5, HB5, hBw5, HN⟩, by simp [RowKit.intOf]; omega⟩
      · have h92' : ((s[i].toNat : Int) == 92) = false := by simpa using h92
        have hnext : unq ((bs s).drop 1) = (P ++ [s[i]]) ++ unq ((bs s).drop (i + 1)) := by
          rw [hU.out, D1.out, unq_o s[i] _ (u8_not s[i] 92 h92' (by omega)) (by rw [D2.out]; simp)]; simp
        have HN := Lib.hid hnext
        clear hnext h92
        have H2 := Lib.hid (writeByte B B P s[i] W3 hI.out (by omega) hBw)
        go_wp2_with fail
        refine H2.out.mono ?_
        rintro e w5 ⟨rfl, hi5, hb5⟩
        have HI5 := Lib.hid hi5
        have HB5 := Lib.hid (hB3.out.trans (hb5.mono hw1))
        have hBw5 := Nat.le_trans hBw hb5.size
        clear hi5 hb5
        go_wp2_with fail
        exact ⟨⟨i + 1, P ++ [s[i]], by omega, by omega, by simp; omega, by go_num, HI5, HB5, hBw5, HN⟩, by simp [RowKit.intOf]; omega⟩
    · have hI1 : ¬ (i : Int) < (s.size : Int) - 1 := by omega
      have hfin : unq ((bs s).drop 1) = P := by
        rw [hU.out, unq_short _ (by rw [List.length_drop, length_bs]; omega)]; simp
      have HF := Lib.hid hfin
      clear hfin
      have H3 := Lib.hid (Tryz.Builder_String_any B B P W3 hI.out hBw)
      go_wp2_with fail
      refine H3.out.mono ?_
      rintro e w5 ⟨rfl, hb5⟩
      have HB5 := Lib.hid (hB3.out.trans (hb5.mono hw1))
      clear hb5
      go_wp2_with fail
      go_ret2
      rw [HF.out]
      exact ⟨rfl, HB5.out⟩
end Tk
end Go.Proofs.YtnbipbeeengiaaaGreatDoor
namespace Go.Proofs.YtnbipbeeengiaaaGreatDoor
open Go.RowKit
namespace Tk

/-- a slice that holds these texts -/
def IsStrs (w : World) (v : Value) (l : List Bs) : Prop :=
  ∃ (a : Option Addr) (c : Nat), v = .slice a l.length c ∧ ∀ j t, l[j]? = some t → ∃ b o, a = some ⟨b, o, none⟩ ∧ w.cell? ⟨b, o + j, none⟩ = some (.string (mkS t))

theorem isStrs_own {w : World} {base : Nat} {v : Value} {l : List Bs} (h : w.ownsRow base 9 1 v l.length (strs l)) : IsStrs w v l := by
  rcases h.2 with ⟨hv, hn⟩ | ⟨g, cap, cur, hv, hb, hg, -⟩
  · exact ⟨none, 0, by rw [hv, hn], fun j t hj => by simp [List.eq_nil_of_length_eq_zero hn] at hj⟩
  · refine ⟨some ⟨g, 0, none⟩, cap, hv, fun j t hj => ⟨g, 0, rfl, ?_⟩⟩
    have := h.cells (g := g) (by rw [hv]; rfl) j (.string (mkS t)) (by simp [strs, hj])
    rw [Nat.zero_add]
    by_cases hj0 : j = 0
    · subst hj0; simpa [Addr.add] using this
    · simpa [Addr.add, hj0] using this

theorem isStrs_later {w w' : World} {v : Value} {l : List Bs} {B : Nat} (h : IsStrs w v l) (hb : Below B w w') (hv : ∀ k, v.ownBlock = some k → k < B) : IsStrs w' v l := by
  obtain ⟨a, c, rfl, hc⟩ := h
  refine ⟨a, c, rfl, fun j t hj => ?_⟩
  obtain ⟨b, o, rfl, h2⟩ := hc j t hj
  exact ⟨b, o, rfl, (hb.cell (p := ⟨b, o + j, none⟩) (hv b rfl)).trans h2⟩

theorem isStrs_lit (w : World) (l : List Bs) (cs : Array Value) (t : TypeId) (c : Nat) (h : cs = (strs l).toArray) : IsStrs (w.alloc (.cells cs t)) (.slice (some ⟨w.heap.size, 0, none⟩) l.length c) l := by
  refine ⟨_, c, rfl, fun j x hj => ⟨w.heap.size, 0, rfl, ?_⟩⟩
  rw [Nat.zero_add, World.cell?_alloc_new, h]
  simp [strs, hj]

theorem isStrs_alloc {w : World} {base : Nat} {v : Value} {l : List Bs} (h : w.ownsRow base 9 1 v l.length (strs l)) (o : Obj) : IsStrs (w.alloc o) v l :=
  isStrs_own (h.alloc o)

end Tk
end Go.Proofs.YtnbipbeeengiaaaGreatDoor
