/- A range over a function whose body never leaves, the body's own blocks told apart from the iterator's: laws of one's own over the library's account of the statement. -/
import Derived.Test.YtdmjpfmjfffmiaaDoorTok0
import Derived.RangeFuncFrom
import Derived.RangeFuncWrites
import Derived.RangeFuncIn
namespace Go.Proofs.YtdmjpfmjfffmiaaDoor
open Go.RowKit
namespace Tk

/-- what lies below B0, and what is in M, lies as it lay -/
structure Mine (B0 : Nat) (M : Nat → Prop) (W W' : World) : Prop where
  os : W'.os = W.os
  tape : W'.tape = W.tape
  output : W'.output = W.output
  size : W.heap.size ≤ W'.heap.size
  same : ∀ k, k < W.heap.size → (k < B0 ∨ M k) → W'.heap[k]? = W.heap[k]?

/-- what a round may do: it turns blocks in M, and lays new ones -/
structure Turns (M M' : Nat → Prop) (W W' : World) : Prop where
  size : W.heap.size ≤ W'.heap.size
  same : ∀ k, k < W.heap.size → ¬ M k → W'.heap[k]? = W.heap[k]?
  more : ∀ k, M' k → M k ∨ W.heap.size ≤ k

def AbidesM {α : Type} (B : Nat) (I : List α → (Nat → Prop) → World → Prop) : Prop :=
  ∀ s M W W', I s M W → Mine B M W W' → I s M W'
def KnownM {α : Type} (I : List α → (Nat → Prop) → World → Prop) : Prop := ∀ s M W, I s M W → ∀ k, M k → k < W.heap.size

theorem Mine.refl (B : Nat) (M : Nat → Prop) (W : World) : Mine B M W W := ⟨rfl, rfl, rfl, Nat.le_refl _, fun _ _ _ => rfl⟩
theorem Mine.trans {B : Nat} {M : Nat → Prop} {a b c : World} (h : Mine B M a b) (k : Mine B M b c) : Mine B M a c :=
  ⟨k.os.trans h.os, k.tape.trans h.tape, k.output.trans h.output, Nat.le_trans h.size k.size, fun i hi hm => (k.same i (Nat.lt_of_lt_of_le hi h.size) hm).trans (h.same i hi hm)⟩
theorem Mine.below {B : Nat} {M : Nat → Prop} {W W' : World} (h : Below W.heap.size W W') : Mine B M W W' := ⟨h.os, h.tape, h.output, h.size, fun k hk _ => h.block k hk⟩
theorem Mine.mono {B C : Nat} {M N : Nat → Prop} {W W' : World} (h : Mine B M W W') (hB : C ≤ B) (hM : ∀ k, N k → M k) : Mine C N W W' :=
  ⟨h.os, h.tape, h.output, h.size, fun k hk hc => h.same k hk (hc.elim (fun x => .inl (by omega)) (fun x => .inr (hM k x)))⟩
theorem Mine.alloc (B : Nat) (M : Nat → Prop) (W : World) (o : Obj) : Mine B M W (W.alloc o) := Mine.below ((Below.refl _ _).alloc (Nat.le_refl _) _)
theorem Mine.putObj {B : Nat} {M : Nat → Prop} {W : World} {l : Nat} (o' : Obj) (hB : B ≤ l) (hM : ¬ M l) : Mine B M W (W.putObj l o') :=
  ⟨rfl, rfl, rfl, by simp, fun k _ hc => World.putObj_heap_other (by rintro rfl; exact hc.elim (by omega) hM)⟩
theorem Turns.refl (M : Nat → Prop) (W : World) : Turns M M W W := ⟨Nat.le_refl _, fun _ _ _ => rfl, fun _ h => .inl h⟩
theorem Turns.below {M : Nat → Prop} {W W' : World} (h : Below W.heap.size W W') : Turns M M W W' := ⟨h.size, fun k hk _ => h.block k hk, fun _ h => .inl h⟩
theorem Turns.trans {M N O : Nat → Prop} {a b c : World} (h : Turns M N a b) (k : Turns N O b c) : Turns M O a c :=
  ⟨Nat.le_trans h.size k.size, fun i hi hm => (k.same i (Nat.lt_of_lt_of_le hi h.size) (fun hn => (h.more i hn).elim hm (by omega))).trans (h.same i hi hm), fun i hi => (k.more i hi).elim (fun x => h.more i x) (fun x => .inr (Nat.le_trans h.size x))⟩

/-- a call of yield, in the widest fence -/
def YieldW (P : Program) (l : Nat) (args : Array Value) (W : World) (R : Ending → World → Prop) : Prop := YieldAt Fence.wide 0 P l args W R
theorem roundW {m : Nat} {P : Program} {l : Nat} {f : FuncId} {tmps : Array Value} {assign body : Code} {W : World} {R : Ending → World → Prop} (h : RoundIn Fence.wide 0 P l f tmps assign body W R) : RoundIn Fence.wide m P l f tmps assign body W R :=
  ⟨h.1, fun c cs _ => h.2 c cs (room_wide _)⟩
theorem YieldW.at {m : Nat} {P : Program} {l : Nat} {args : Array Value} {W : World} {R : Ending → World → Prop} (h : YieldW P l args W R) : YieldAt Fence.wide m P l args W R := by
  obtain ⟨fn, tmps, assign, body, h1, h2⟩ := h
  exact ⟨fn, tmps, assign, body, h1, roundW h2⟩
theorem YieldW.inRound {m l' : Nat} {P : Program} {l : Nat} {args : Array Value} {W : World} {R : Ending → World → Prop} (h : YieldW P l args W R) : YieldAt (Fence.wide.inRound l') m P l args W R := h.at (m := m)

/-- the iterator hands over xs, where S holds in every world of the rounds -/
def HandsM {α : Type} (P : Program) (gf : Nat) (lb : Array Value) (encs : α → Array Value) (xs : List α) (S : World → Prop) : Prop :=
  ∀ (l : Nat) (J : List α → (Nat → Prop) → World → Prop) (M : Nat → Prop) (W : World), KnownM J → AbidesM W.heap.size J → (∀ s M W, J s M W → S W) →
    (∀ pre x M W1, J pre M W1 → pre ++ [x] <+: xs → YieldW P l (encs x) W1 fun e W' => e = .returned (.bool true) ∧ ∃ M', J (pre ++ [x]) M' W' ∧ Turns M M' W1 W') →
    J [] M W → Calls P gf (#[.func (.yield l) #[] #[]] ++ lb) W fun e W' => (∃ v, e = .returned v) ∧ ∃ M', J xs M' W'

/-- what a round leaves behind: the body has run to its end -/
def BodyM {α : Type} (I : List α → (Nat → Prop) → World → Prop) (s : List α) (M : Nat → Prop) (W : World) : Exit → Act → World → Prop
  | .normal, _, W' => ∃ M', I s M' W' ∧ Turns M M' W W'
  | _, _, _ => False

theorem range_mx {α : Type} {encs : α → Array Value} {n : Nat} {P : Program} {g : Operand} {ps : Array Tmp} {assign body : Code} {Q : Exit → Act → World → Prop} {a : Act} {w : World}
    {gf : Nat} {lb : Array Value} (hg : a.eval g = .func (.func gf) #[] lb) (eg : ∀ args w, (callFunc gf args).run P w = .ok (.enter gf args) w)
    {xs : List α} {S : World → Prop} (hps : ∀ x, (encs x).size = ps.size) (hseq : HandsM P gf lb encs xs S) (I : List α → (Nat → Prop) → World → Prop) (hK : KnownM I) (hI : AbidesM w.heap.size I) (hS : ∀ s M W, I s M W → S W)
    (M0 : Nat → Prop) (h0 : I [] M0 w) (Ax : α → Act → Nat → World → Prop) (hAx : ∀ x a' z W W', Ax x a' z W → (∀ k, z ≤ k → k < W.heap.size → W'.heap[k]? = W.heap[k]?) → Ax x a' z W')
    (hassign : ∀ (l m : Nat) (x : α) (W : World) (K : Act → World → Prop), (∀ a' W', Below W.heap.size W W' → Ax x a' W.heap.size W' → K a' W') → assign.wpIn (Fence.wide.inRound l) m P (Exit.then K (fun _ _ _ => False)) { tmps := (ps.zip (encs x)).foldl (fun t (p, v) => t.setIfInBounds p v) a.tmps, defers := [] } W)
    (hbody : ∀ (l m : Nat) (pre : List α) (x : α) (M : Nat → Prop) (a' : Act) (z : Nat) (W : World), I pre M W → (∀ k, M k → k < z) → z ≤ W.heap.size → Ax x a' z W → pre ++ [x] <+: xs → body.wpIn (Fence.wide.inRound l) m P (BodyM I (pre ++ [x]) M W) a' W)
    (hdone : ∀ (D : Nat) (M : Nat → Prop) (W : World), w.heap.size ≤ D → ¬ M D → I xs M W → W.heap[D]? = some (.deferred (some [])) → Q .normal { a with defers := { target := .collected D, args := #[] } :: a.defers } W) :
    (Code.rangeFunc g ps assign body).wpIn Fence.wide n P Q a w := by
  refine wpIn_rangeFunc fun fn hfn => ?_
  generalize hB : w.heap.size = B at *
  let rc : LoopState → Loop := fun st => { state := st, pending := none, fn, tmps := a.tmps, params := ps, assign, body, defers := B }
  let W1 : World := (w.alloc (.deferred (some []))).alloc (.loop (rc .ready))
  have hs1 : W1.heap.size = B + 2 := by show ((w.alloc _).alloc _).heap.size = _; simp [hB]
  have hl1 : W1.heap[B + 1]? = some (.loop (rc .ready)) := by
    have := World.alloc_heap_new (w.alloc (.deferred (some []))) (.loop (rc .ready))
    rw [World.size_alloc, hB] at this
    exact this
  have hd1 : W1.heap[B]? = some (.deferred (some [])) := by
    have h2 := World.alloc_heap_new w (.deferred (some []))
    rw [hB] at h2
    exact (Below.heap_alloc _ _ _ (by simp [hB])).trans h2
  have hi1 : I [] M0 W1 := hI _ _ _ _ (hI _ _ _ _ h0 (Mine.alloc _ _ _ _)) (Mine.alloc _ _ _ _)
  have hM0 : ∀ k, M0 k → k < B := fun k hk => hB ▸ hK _ _ _ h0 k hk
  refine ⟨B + 1, [{ target := .collected B, args := #[] }], W1, { target := .fn (.func gf) lb, args := #[.func (.yield (B + 1)) #[] #[]] }, W1, gf, #[.func (.yield (B + 1)) #[] #[]] ++ lb, W1, ?_, ?_, ?_, ?_, fun h => absurd h (by decide), ?_⟩
  · have := run_enterLoop_outer (P := P) (w := w) fn a.tmps ps assign body
    rw [hB] at this
    exact this
  · simp only [resolve, hg]
    simp [go_sem]
  · intro f' _
    trivial
  · simp [invoke, go_sem, eg]
  · let J : List α → (Nat → Prop) → World → Prop := fun pre M W => ∃ N, I pre N W ∧ (∀ k, M k ↔ (N k ∨ k = B + 1)) ∧ ¬ N B ∧ ¬ N (B + 1) ∧ W.heap[B + 1]? = some (.loop (rc .ready)) ∧ W.heap[B]? = some (.deferred (some []))
    have hJK : KnownM J := by
      rintro s M W ⟨N, i, hm, -, -, hl, -⟩ k hk
      rcases (hm k).1 hk with h | rfl
      · exact hK _ _ _ i k h
      · exact (Array.getElem?_eq_some_iff.1 hl).1
    have hJ : AbidesM W1.heap.size J := by
      rintro s M W W' ⟨N, i, hm, n0, n1, hl, hd⟩ hM
      refine ⟨N, hI _ _ _ _ i (hM.mono (by omega) (fun k hk => (hm k).2 (.inl hk))), hm, n0, n1, ?_, ?_⟩
      · exact (hM.same _ (Array.getElem?_eq_some_iff.1 hl).1 (.inl (by omega))).trans hl
      · exact (hM.same _ (Array.getElem?_eq_some_iff.1 hd).1 (.inl (by omega))).trans hd
    have hcall := hseq (B + 1) J (fun k => M0 k ∨ k = B + 1) W1 hJK hJ (fun s M W ⟨N, i, _⟩ => hS _ _ _ i) ?_ ⟨M0, hi1, fun _ => Iff.rfl, fun h => absurd (hM0 _ h) (by omega), fun h => absurd (hM0 _ h) (by omega), hl1, hd1⟩
    · refine callsIn_wide.2 (hcall.mono ?_)
      rintro e W2 ⟨⟨v, rfl⟩, M, N, i, hm, n0, n1, hl, hd⟩
      refine ⟨none, _, run_endLoop (P := P) hl (by simp [rc]), ?_⟩
      exact hdone B N _ (Nat.le_refl _) n0 (hI _ _ _ _ i (Mine.putObj _ (by omega) n1)) ((World.putObj_heap_other (by omega)).trans hd)
    · rintro pre x M W ⟨N, i, hm, n0, n1, hl, hd⟩ hpre
      have hlt : B + 1 < W.heap.size := (Array.getElem?_eq_some_iff.1 hl).1
      refine ⟨fn, _, assign, body, run_yield (P := P) (args := encs x) hl (hps x), roundIn_of_wpIn hfn (hassign _ _ x W _ ?_)⟩
      intro a' Wa hba hax
      have hla : Wa.heap[B + 1]? = some (.loop (rc .ready)) := (hba.block _ hlt).trans hl
      have hda : Wa.heap[B]? = some (.deferred (some [])) := (hba.block _ (Array.getElem?_eq_some_iff.1 hd).1).trans hd
      have hza := hba.size
      have hNz : ∀ k, N k → k < W.heap.size := hK _ _ _ i
      have ia : I pre N Wa := hI _ _ _ _ i (Mine.below hba)
      refine ⟨_, run_beginRound hla rfl, ?_⟩
      generalize hW2 : Wa.putObj (B + 1) (.loop { rc .ready with state := .busy }) = W2
      have j2 : W2.heap[B + 1]? = some (.loop { rc .ready with state := .busy }) := by rw [← hW2]; exact World.putObj_heap_same (Nat.lt_of_lt_of_le hlt hza)
      have jo : ∀ k, k ≠ B + 1 → W2.heap[k]? = Wa.heap[k]? := fun k hk => by rw [← hW2]; exact World.putObj_heap_other hk
      have jz : W2.heap.size = Wa.heap.size := by rw [← hW2]; simp
      have jI : I pre N W2 := by rw [← hW2]; exact hI _ _ _ _ ia (Mine.putObj _ (by omega) n1)
      have jA : Ax x a' W.heap.size W2 := hAx _ _ _ _ _ hax (fun k hk _ => jo k (by omega))
      refine wpIn_mono (hbody _ _ pre x N a' W.heap.size W2 jI hNz (by omega) jA hpre) ?_
      rintro e a3 W3 hp
      cases e with
      | normal =>
        obtain ⟨N', i', T⟩ := hp
        have l2 := (T.same (B + 1) (by omega) n1).trans j2
        have hlt3 := (Array.getElem?_eq_some_iff.1 l2).1
        have l3 : W3.heap[B]? = some (.deferred (some [])) := (T.same B (by omega) n0).trans ((jo B (by omega)).trans hda)
        have m0 : ¬ N' B := fun h => (T.more _ h).elim n0 (by omega)
        have m1 : ¬ N' (B + 1) := fun h => (T.more _ h).elim n1 (by omega)
        have hend := run_endRound (P := P) none l2
        refine ⟨_, _, hend, rfl, fun k => N' k ∨ k = B + 1, ⟨N', hI _ _ _ _ i' (Mine.putObj _ (by omega) m1), fun _ => Iff.rfl, m0, m1, World.putObj_heap_same hlt3, (World.putObj_heap_other (by omega)).trans l3⟩, ?_, ?_, ?_⟩
        · have := T.size; simp; omega
        · intro k hk hnk
          have hk1 : k ≠ B + 1 := fun e => hnk ((hm k).2 (.inr e))
          exact (World.putObj_heap_other hk1).trans ((T.same k (by omega) (fun h => hnk ((hm k).2 (.inl h)))).trans ((jo k hk1).trans (hba.block k hk)))
        · rintro k (h | rfl)
          · rcases T.more k h with h | h
            · exact .inl ((hm k).2 (.inl h))
            · exact .inr (by omega)
          · exact .inl ((hm _).2 (.inr rfl))
      | ret => exact hp.elim
      | exit id => exact hp.elim
      | goto t => exact hp.elim
      | panic ch => exact hp.elim
      | outgrown => exact hp.elim

/-- where the loop's own assignments lay nothing -/
theorem range_m {α : Type} {encs : α → Array Value} {n : Nat} {P : Program} {g : Operand} {ps : Array Tmp} {assign body : Code} {Q : Exit → Act → World → Prop} {a : Act} {w : World}
    {gf : Nat} {lb : Array Value} (hg : a.eval g = .func (.func gf) #[] lb) (eg : ∀ args w, (callFunc gf args).run P w = .ok (.enter gf args) w)
    {xs : List α} {S : World → Prop} (hps : ∀ x, (encs x).size = ps.size) (hseq : HandsM P gf lb encs xs S) (I : List α → (Nat → Prop) → World → Prop) (hK : KnownM I) (hI : AbidesM w.heap.size I) (hS : ∀ s M W, I s M W → S W)
    (M0 : Nat → Prop) (h0 : I [] M0 w) (a₁ : α → Act)
    (hassign : ∀ (l m : Nat) (x : α) (W : World) (K : Act → World → Prop), K (a₁ x) W → assign.wpIn (Fence.wide.inRound l) m P (Exit.then K (fun _ _ _ => False)) { tmps := (ps.zip (encs x)).foldl (fun t (p, v) => t.setIfInBounds p v) a.tmps, defers := [] } W)
    (hbody : ∀ (l m : Nat) (pre : List α) (x : α) (M : Nat → Prop) (W : World), I pre M W → pre ++ [x] <+: xs → body.wpIn (Fence.wide.inRound l) m P (BodyM I (pre ++ [x]) M W) (a₁ x) W)
    (hdone : ∀ (D : Nat) (M : Nat → Prop) (W : World), w.heap.size ≤ D → ¬ M D → I xs M W → W.heap[D]? = some (.deferred (some [])) → Q .normal { a with defers := { target := .collected D, args := #[] } :: a.defers } W) :
    (Code.rangeFunc g ps assign body).wpIn Fence.wide n P Q a w :=
  range_mx hg eg hps hseq I hK hI hS M0 h0 (fun x a' _ _ => a' = a₁ x) (fun _ _ _ _ _ h _ => h)
    (fun l m x W K hk => hassign l m x W K (hk _ _ (Below.refl _ _) rfl)) (fun l m pre x M a' _ W i _ _ e hp => by subst e; exact hbody l m pre x M W i hp) hdone
end Tk
end Go.Proofs.YtdmjpfmjfffmiaaDoor
