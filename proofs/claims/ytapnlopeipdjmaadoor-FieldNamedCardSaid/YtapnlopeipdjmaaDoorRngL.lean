/- A range over a function whose iterator keeps a map of its own; the body never leaves: a law of one's own, behind the library's account of the statement. -/
import Derived.Test.YtapnlopeipdjmaaDoorTok0
import Derived.RangeFuncFrom
import Derived.RangeFuncWrites
import Derived.RangeFuncIn
namespace Go.Proofs.YtapnlopeipdjmaaDoor
open Go.RowKit
namespace Tk

/-- what a round leaves behind: the body has run to its end -/
def BodyEnds (n₀ : Nat) (W : World) (I : World → Prop) : Exit → Act → World → Prop
  | .normal, _, W' => KeepsOthers W W' ∧ Below n₀ W W' ∧ I W'
  | _, _, _ => False

/-- the iterator hands over xs, whatever abides its own blocks -/
def Hands (F : Fence) (n : Nat) (P : Program) (gf : Nat) (lb : Array Value) (xs : List Bs) (w : World) : Prop :=
  ∀ (l : Nat) (J : List Bs → World → Prop) (W : World), Below w.heap.size w W → OwnFrom W.heap.size J →
    (∀ pre x W1, J pre W1 → pre ++ [x] <+: xs → YieldAt F (n - 1) P l #[.string (mkS x)] W1 fun e W' => e = .returned (.bool true) ∧ J (pre ++ [x]) W' ∧ Below w.heap.size W1 W' ∧ KeepsFrom W.heap.size W1 W') →
    J [] W → CallsIn F n P gf (#[.func (.yield l) #[] #[]] ++ lb) W fun e W' => (∃ v, e = .returned v) ∧ J xs W'

theorem range_hands {F : Fence} {n : Nat} {P : Program} {g : Operand} {ps : Array Tmp} {assign body : Code} {Q : Exit → Act → World → Prop} {a : Act} {w w0 : World} (hb0 : Below w0.heap.size w0 w)
    (hro : F.round = none) (h1 : 1 ≤ n) {gf : Nat} {lb : Array Value} (hg : a.eval g = .func (.func gf) #[] lb) (hF : F.fn gf) (eg : ∀ args w, (callFunc gf args).run P w = .ok (.enter gf args) w)
    (xs : List Bs) (hps : ps.size = 1) (hseq : Hands F (n - 1) P gf lb xs w0) (I : List Bs → World → Prop) (hI : OwnFrom w.heap.size I) (h0 : I [] w) (a₁ : Bs → Act)
    (hassign : ∀ (l : Nat) (x : Bs) (W : World) (K : Act → World → Prop), K (a₁ x) W → assign.wpIn (F.inRound l) (n - 1 - 1) P (Exit.then K (fun _ _ _ => False)) { tmps := (ps.zip #[.string (mkS x)]).foldl (fun t (p, v) => t.setIfInBounds p v) a.tmps, defers := [] } W)
    (hbody : ∀ (l : Nat) (pre : List Bs) (x : Bs) (W : World), I pre W → pre ++ [x] <+: xs → body.wpIn (F.inRound l) (n - 1 - 1) P (BodyEnds w0.heap.size W (I (pre ++ [x]))) (a₁ x) W)
    (hdone : ∀ (D : Nat) (W : World), w.heap.size ≤ D → I xs W → W.heap[D]? = some (.deferred (some [])) → Q .normal { a with defers := { target := .collected D, args := #[] } :: a.defers } W) :
    (Code.rangeFunc g ps assign body).wpIn F n P Q a w := by
  refine wpIn_rangeFunc fun fn hfn => ?_
  rw [hro]
  -- the two blocks that the statement lays
  have hle : w0.heap.size ≤ w.heap.size := hb0.size
  generalize hB : w.heap.size = B at *
  let rc : LoopState → Loop := fun st => { state := st, pending := none, fn, tmps := a.tmps, params := ps, assign, body, defers := B }
  let W1 : World := (w.alloc (.deferred (some []))).alloc (.loop (rc .ready))
  have hs1 : W1.heap.size = B + 2 := by show ((w.alloc _).alloc _).heap.size = _; simp [hB]
  have hl1 : W1.heap[B + 1]? = some (.loop (rc .ready)) := by
    have := World.alloc_heap_new (w.alloc (.deferred (some []))) (.loop (rc .ready))
    rw [World.size_alloc, hB] at this
    exact this
  have hd1 : W1.heap[B]? = some (.deferred (some [])) := by
    have h2 := World.alloc_heap_new w (.deferred (some []))
    rw [hB] at h2
    exact (Below.heap_alloc _ _ _ (by simp [hB])).trans h2
  have hi1 : I [] W1 := hI.alloc _ (hI.alloc _ h0)
  have hb1 : Below B w W1 := ((Below.refl B w).alloc (by omega) _).alloc (by simp [hB]) _
  refine ⟨B + 1, [{ target := .collected B, args := #[] }], W1, { target := .fn (.func gf) lb, args := #[.func (.yield (B + 1)) #[] #[]] }, W1, gf, #[.func (.yield (B + 1)) #[] #[]] ++ lb, W1, ?_, ?_, ?_, ?_, fun _ => h1, ?_⟩
  · have := run_enterLoop_outer (P := P) (w := w) fn a.tmps ps assign body
    rw [hB] at this
    exact this
  · simp only [resolve, hg]
    simp [go_sem]
  · intro f' hf'
    simp [Target.leads] at hf'
    subst hf'
    exact hF
  · simp [invoke, go_sem, eg]
  · let J : List Bs → World → Prop := fun pre W => I pre W ∧ W.heap[B + 1]? = some (.loop (rc .ready)) ∧ W.heap[B]? = some (.deferred (some []))
    have hJ : OwnFrom W1.heap.size J := by
      rintro s W W' row ⟨a1, a2, a3⟩ hgr hr
      have hne : ∀ k, k < B + 2 → some k ≠ row := fun k hk e => by
        have := (hr k e.symm).1
        omega
      exact ⟨hI s W W' row a1 hgr (fun r e => ⟨by have := (hr r e).1; omega, (hr r e).2⟩), (hgr.block _ (Array.getElem?_eq_some_iff.1 a2).1 (hne _ (by omega))).trans a2, (hgr.block _ (Array.getElem?_eq_some_iff.1 a3).1 (hne _ (by omega))).trans a3⟩
    refine (hseq (B + 1) J W1 (hb0.trans (hb1.mono hle)) hJ ?_ ⟨hi1, hl1, hd1⟩).mono ?_
    · rintro pre x W ⟨i1, i2, i3⟩ hpre
      have hlt : B + 1 < W.heap.size := (Array.getElem?_eq_some_iff.1 i2).1
      refine ⟨fn, _, assign, body, run_yield (P := P) (args := #[.string (mkS x)]) i2 hps.symm, roundIn_of_wpIn hfn (hassign _ x W _ ⟨_, run_beginRound i2 rfl, ?_⟩)⟩
      generalize hW2 : W.putObj (B + 1) (.loop { rc .ready with state := .busy }) = W2
      have j2 : W2.heap[B + 1]? = some (.loop { rc .ready with state := .busy }) := by rw [← hW2]; exact World.putObj_heap_same hlt
      have j3 : W2.heap[B]? = some (.deferred (some [])) := by rw [← hW2]; exact (World.putObj_heap_other (by omega)).trans i3
      have jI : I pre W2 := by rw [← hW2]; exact hI.putObj _ i1 (by omega) i2 rfl
      have jB : Below B W W2 := by rw [← hW2]; exact (Below.refl B W).grown (grownBy_putObj' W _ _) (by omega) (fun k e => by cases e; omega)
      have jK : KeepsFrom W1.heap.size W W2 := by rw [← hW2]; exact KeepsFrom.of_grownBy (grownBy_putObj' W _ _) (fun k e => by cases e; omega)
      refine wpIn_mono (hbody _ pre x W2 jI hpre) ?_
      rintro e a3 W3 hp
      cases e with
      | normal =>
        obtain ⟨k1, k2, k3⟩ := hp
        have l2 := k1.same _ _ j2 rfl
        have l3 := k1.same _ _ j3 rfl
        have hlt3 := (Array.getElem?_eq_some_iff.1 l2).1
        have hend := run_endRound (P := P) none l2
        refine ⟨_, _, hend, rfl, ⟨hI.putObj _ k3 (by omega) l2 rfl, World.putObj_heap_same hlt3, (World.putObj_heap_other (by omega)).trans l3⟩, ?_, ?_⟩
        · exact ((jB.mono hle).trans k2).trans ((Below.refl w0.heap.size W3).grown (grownBy_putObj' W3 _ _) (by omega) (fun k e => by cases e; omega))
        · exact (jK.trans (k1.from _)).trans (KeepsFrom.of_grownBy (grownBy_putObj' W3 _ _) (fun k e => by cases e; omega))
      | ret => exact hp.elim
      | exit id => exact hp.elim
      | goto t => exact hp.elim
      | panic ch => exact hp.elim
      | outgrown => exact hp.elim
    · rintro e W2 ⟨⟨v, rfl⟩, i1, i2, i3⟩
      refine ⟨none, _, run_endLoop (P := P) i2 (by simp [rc]), ?_⟩
      exact hdone B _ (Nat.le_refl _) (hI.putObj _ i1 (by omega) i2 rfl) ((World.putObj_heap_other (by omega)).trans i3)
end Tk
end Go.Proofs.YtapnlopeipdjmaaDoor
