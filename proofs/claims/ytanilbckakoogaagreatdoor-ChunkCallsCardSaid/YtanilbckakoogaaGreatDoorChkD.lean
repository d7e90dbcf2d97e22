/- A decoder in memory: its block, the rows of its own, and what a call may turn of them. -/
import Derived.Test.YtanilbckakoogaaGreatDoorChkP
import Derived.Test.YtanilbckakoogaaGreatDoorAp2
import Derived.Test.YtanilbckakoogaaGreatDoorJoinF
namespace Go.Proofs.YtanilbckakoogaaGreatDoor
open Go.RowKit
namespace Tk

theorem own_heap {w w' : World} {B n size : Nat} {v : Value} {xs : List Value} {e : TypeId} (h : w.ownsRow B e size v n xs) (hk : ∀ k, v.ownBlock = some k → w'.heap[k]? = w.heap[k]?) : w'.ownsRow B e size v n xs := by
  rcases h.2 with hn | ⟨g, cap, cur, rfl, hb, hgg, rest⟩
  · exact ⟨h.1, .inl hn⟩
  · exact ⟨h.1, .inr ⟨g, cap, cur, rfl, hb, (hk g rfl).trans hgg, rest⟩⟩
/-- the row's capacity kept, its elements given up -/
theorem own_cut {w : World} {B n size : Nat} {v : Value} {xs : List Value} {e : TypeId} (h : w.ownsRow B e size v n xs) (a : Addr) (c : Nat) (hv : v = .slice (some a) n c) : w.ownsRow B e size (.slice (some a) 0 c) 0 [] := by
  rcases h.2 with ⟨hn, -⟩ | ⟨g, cap, cur, he, hb, hgg, hnc, hcm, hcs, ht⟩
  · rw [hn] at hv; cases hv
  · rw [he] at hv
    injection hv with e1 e2 e3
    injection e1 with e1
    subst e1 e3
    exact ⟨by simp, .inr ⟨g, cap, cur, rfl, hb, hgg, Nat.zero_le _, hcm, hcs, by simp⟩⟩
theorem own_ne {w : World} {B n size : Nat} {e T : TypeId} {v : Value} {xs : List Value} {b : Nat} {cs : Array Value} {fr : Nat × Nat} (hown : w.ownsRow B e size v n xs) (hb : w.heap[b]? = some (.cells cs T fr)) (hTe : T ≠ e) : v.ownBlock ≠ some b := by
  rcases hown.2 with ⟨rfl, _⟩ | ⟨g, cap, cur, rfl, _, hg, _⟩
  · simp [Value.ownBlock]
  · intro h
    simp only [Value.ownBlock, Option.some.injEq] at h
    subst h
    rw [hg] at hb
    simp only [Option.some.injEq, Obj.cells.injEq] at hb
    exact hTe hb.2.1.symm
theorem own_ne2 {w : World} {B B' n n' size size' : Nat} {e e' : TypeId} {v v' : Value} {xs xs' : List Value} (h : w.ownsRow B e size v n xs) (h' : w.ownsRow B' e' size' v' n' xs') (hTe : e' ≠ e) (k : Nat) (hk : v'.ownBlock = some k) : v.ownBlock ≠ some k := by
  rcases h'.2 with ⟨rfl, _⟩ | ⟨g, cap, cur, rfl, _, hg, _⟩
  · cases hk
  · simp only [Value.ownBlock, Option.some.injEq] at hk
    subst hk
    exact own_ne h hg hTe

def ptr (b : Nat) : Value := .pointer (some ⟨b, 0, none⟩)
/-- the state that a decoder's field holds -/
def stV (b : Nat) : Nat → Value
  | 0 => .func (.func 26) #[ptr b] #[]
  | 1 => .func (.func 42) #[ptr b] #[]
  | 2 => .func (.func 62) #[ptr b] #[]
  | 3 => .func (.func 80) #[ptr b] #[]
  | 4 => .func (.func 41) #[ptr b] #[]
  | _ => .nilFunc
def dcells (b : Nat) (s : Dc) (vl vb vt : Value) : Array Value :=
  #[ptr b, .int .i64 s.L, .int .i64 s.H, .int .i64 s.C, .int .i64 s.M, stV b s.mode, .int .i64 s.bad, vl, .int .i64 s.left, .int .i64 s.head, vb, vt]

structure Dec (B b : Nat) (s : Dc) (vl vb vt : Value) (w : World) : Prop where
  hB : B ≤ b
  blk : w.heap[b]? = some (.cells (dcells b s vl vb vt) 64 (0, 0))
  line : w.ownsRow B 5 1 vl s.line.length (Lib.byteCells s.line)
  body : w.ownsRow B 5 1 vb s.body.length (Lib.byteCells s.body)
  trl : w.ownsRow B 40 2 vt s.trl.length (fcells s.trl)
  apart : ∀ k, vl.ownBlock = some k → vb.ownBlock ≠ some k

/-- the blocks of a decoder -/
def Mine (b : Nat) (vl vb vt : Value) (k : Nat) : Prop := k = b ∨ vl.ownBlock = some k ∨ vb.ownBlock = some k ∨ vt.ownBlock = some k

structure Turn (b : Nat) (vl vb vt vl' vb' vt' : Value) (w w' : World) : Prop where
  os : w'.os = w.os
  tape : w'.tape = w.tape
  output : w'.output = w.output
  size : w.heap.size ≤ w'.heap.size
  block : ∀ k, k < w.heap.size → ¬ Mine b vl vb vt k → w'.heap[k]? = w.heap[k]?
  new : ∀ k, Mine b vl' vb' vt' k → Mine b vl vb vt k ∨ w.heap.size ≤ k

variable {B b : Nat} {s : Dc} {vl vb vt vl' vb' vt' vl2 vb2 vt2 : Value} {w w' w2 : World}

theorem Dec.lt (h : Dec B b s vl vb vt w) : b < w.heap.size := (Array.getElem?_eq_some_iff.1 h.blk).1
theorem Dec.cell (h : Dec B b s vl vb vt w) (i : Nat) (v : Value) (hv : (dcells b s vl vb vt)[i]? = some v) : w.cell? ⟨b, i, none⟩ = some v := by rw [Lib.cell_of_heap h.blk]; exact hv
theorem Dec.frz (h : Dec B b s vl vb vt w) (i : Nat) : w.frozen? ⟨b, i, none⟩ = false := Lib.frozen_of_heap h.blk i
theorem Dec.mineLt (h : Dec B b s vl vb vt w) (k : Nat) (hk : Mine b vl vb vt k) : B ≤ k ∧ k < w.heap.size := by
  rcases hk with rfl | hk | hk | hk
  · exact ⟨h.hB, h.lt⟩
  · exact h.line.lt k hk
  · exact h.body.lt k hk
  · exact h.trl.lt k hk
theorem Dec.same (h : Dec B b s vl vb vt w) (hk : ∀ k, Mine b vl vb vt k → w'.heap[k]? = w.heap[k]?) : Dec B b s vl vb vt w' :=
  ⟨h.hB, (hk b (.inl rfl)).trans h.blk, own_heap h.line fun k e => hk k (.inr (.inl e)), own_heap h.body fun k e => hk k (.inr (.inr (.inl e))), own_heap h.trl fun k e => hk k (.inr (.inr (.inr e))), h.apart⟩
theorem Dec.below (h : Dec B b s vl vb vt w) (hb : Below w.heap.size w w') : Dec B b s vl vb vt w' := h.same fun k hk => hb.block k (h.mineLt k hk).2
theorem Turn.of (hb : Below w.heap.size w w') : Turn b vl vb vt vl vb vt w w' := ⟨hb.os, hb.tape, hb.output, hb.size, fun k hk _ => hb.block k hk, fun _ hk => .inl hk⟩
theorem Turn.refl : Turn b vl vb vt vl vb vt w w := Turn.of (Below.refl _ _)
theorem Turn.trans (h : Turn b vl vb vt vl' vb' vt' w w') (h2 : Turn b vl' vb' vt' vl2 vb2 vt2 w' w2) : Turn b vl vb vt vl2 vb2 vt2 w w2 := by
  refine ⟨h2.os.trans h.os, h2.tape.trans h.tape, h2.output.trans h.output, Nat.le_trans h.size h2.size, fun k hk hm => ?_, fun k hk => ?_⟩
  · refine (h2.block k (Nat.lt_of_lt_of_le hk h.size) fun hm' => ?_).trans (h.block k hk hm)
    rcases h.new k hm' with h3 | h3
    · exact hm h3
    · omega
  · rcases h2.new k hk with h3 | h3
    · exact h.new k h3
    · exact .inr (Nat.le_trans h.size h3)
theorem Turn.toBelow (h : Turn b vl vb vt vl' vb' vt' w w') (hd : Dec B b s vl vb vt w) : Below B w w' :=
  ⟨h.os, h.tape, h.output, h.size, fun k hk => h.block k (by have := hd.hB; have := hd.lt; omega) fun hm => by have := (hd.mineLt k hm).1; omega⟩

/-- a field that is no row is stored -/
theorem Dec.set (h : Dec B b s vl vb vt w) (i : Nat) (u : Value) (s' : Dc) (hs : (dcells b s vl vb vt).setIfInBounds i u = dcells b s' vl vb vt) (h1 : s'.line = s.line) (h2 : s'.body = s.body) (h3 : s'.trl = s.trl) : Dec B b s' vl vb vt (w.setCell ⟨b, i, none⟩ u) := by
  have hne : ∀ k, k ≠ b → (w.setCell ⟨b, i, none⟩ u).heap[k]? = w.heap[k]? := fun k hk => Below.heap_setCell _ _ _ _ hk
  refine ⟨h.hB, ?_, ?_, ?_, ?_, h.apart⟩
  · rw [heap_setCell_same w b i _ _ u h.blk, hs]
  · rw [h1]; exact own_heap h.line fun k e => hne k (fun e2 => own_ne h.line h.blk (by decide) (e2 ▸ e))
  · rw [h2]; exact own_heap h.body fun k e => hne k (fun e2 => own_ne h.body h.blk (by decide) (e2 ▸ e))
  · rw [h3]; exact own_heap h.trl fun k e => hne k (fun e2 => own_ne h.trl h.blk (by decide) (e2 ▸ e))
theorem Turn.set (i : Nat) (u : Value) : Turn b vl vb vt vl vb vt w (w.setCell ⟨b, i, none⟩ u) :=
  ⟨rfl, rfl, rfl, by simp, fun k _ hm => Below.heap_setCell _ _ _ _ (fun e => hm (.inl e)), fun _ hk => .inl hk⟩

/-- it goes on with a decoder s' -/
def DecTo (B b : Nat) (s' : Dc) (vl vb vt : Value) (w w' : World) : Prop := ∃ vl' vb' vt', Dec B b s' vl' vb' vt' w' ∧ Turn b vl vb vt vl' vb' vt' w w'

/-- the line has a row that is longer -/
theorem Dec.putLine (h : Dec B b s vl vb vt w) (c : UInt8) (ho : w2.ownsRow B 5 1 vl' (s.line.length + 1) (Lib.byteCells s.line ++ [.int .u8 c.toNat])) (hg : w.grownBy w2 vl.ownBlock) (hst : ∀ k, vl'.ownBlock = some k → vl.ownBlock = some k ∨ w.heap.size ≤ k) :
    Dec B b { s with line := s.line ++ [c] } vl' vb vt (w2.setCell ⟨b, 7, none⟩ vl') ∧ Turn b vl vb vt vl' vb vt w (w2.setCell ⟨b, 7, none⟩ vl') := by
  have hl := own_ne h.line h.blk (by decide)
  have hk2 : w2.heap[b]? = some (.cells (dcells b s vl vb vt) 64 (0, 0)) := (hg.block b h.lt (fun e => hl e.symm)).trans h.blk
  have hb2 : w2.ownsRow B 5 1 vb s.body.length (Lib.byteCells s.body) := own_heap h.body fun k e => hg.block k (h.body.lt k e).2 fun e2 => h.apart k e2.symm e
  have ht2 : w2.ownsRow B 40 2 vt s.trl.length (fcells s.trl) := own_heap h.trl fun k e => hg.block k (h.trl.lt k e).2 fun e2 => own_ne2 h.line h.trl (by decide) k e e2.symm
  have hne : ∀ k, k ≠ b → (w2.setCell ⟨b, 7, none⟩ vl').heap[k]? = w2.heap[k]? := fun k hk => Below.heap_setCell _ _ _ _ hk
  have ho2 : w2.ownsRow B 5 1 vl' (s.line ++ [c]).length (Lib.byteCells (s.line ++ [c])) := by
    rw [List.length_append]
    have e : Lib.byteCells (s.line ++ [c]) = Lib.byteCells s.line ++ [.int .u8 c.toNat] := by simp [Lib.byteCells]
    rw [e]; exact ho
  refine ⟨⟨h.hB, ?_, ?_, ?_, ?_, ?_⟩, ⟨hg.os, hg.tape, hg.output, by simpa using hg.size, ?_, ?_⟩⟩
  · rw [heap_setCell_same w2 b 7 _ _ vl' hk2]; rfl
  · exact own_heap ho2 fun k e => hne k (fun e2 => own_ne ho2 hk2 (by decide) (e2 ▸ e))
  · exact own_heap hb2 fun k e => hne k (fun e2 => own_ne hb2 hk2 (by decide) (e2 ▸ e))
  · exact own_heap ht2 fun k e => hne k (fun e2 => own_ne ht2 hk2 (by decide) (e2 ▸ e))
  · intro k hk hv
    rcases hst k hk with h1 | h1
    · exact h.apart k h1 hv
    · have := (h.body.lt k hv).2; omega
  · intro k hk hm
    rw [hne k (fun e => hm (.inl e))]
    exact hg.block k hk fun e => hm (.inr (.inl e.symm))
  · intro k hk
    rcases hk with rfl | hk | hk | hk
    · exact .inl (.inl rfl)
    · rcases hst k hk with h1 | h1
      · exact .inl (.inr (.inl h1))
      · exact .inr h1
    · exact .inl (.inr (.inr (.inl hk)))
    · exact .inl (.inr (.inr (.inr hk)))
/-- the line begins anew -/
theorem Dec.cutLine (h : Dec B b s vl vb vt w) (a : Addr) (c : Nat) (hv : vl = .slice (some a) s.line.length c) :
    Dec B b { s with line := [] } (.slice (some a) 0 c) vb vt (w.setCell ⟨b, 7, none⟩ (.slice (some a) 0 c)) ∧ Turn b vl vb vt (.slice (some a) 0 c) vb vt w (w.setCell ⟨b, 7, none⟩ (.slice (some a) 0 c)) := by
  have ho := own_cut h.line a c hv
  have he : (Value.slice (some a) 0 c).ownBlock = vl.ownBlock := by rw [hv]; rfl
  have hne : ∀ k, k ≠ b → (w.setCell ⟨b, 7, none⟩ (.slice (some a) 0 c)).heap[k]? = w.heap[k]? := fun k hk => Below.heap_setCell _ _ _ _ hk
  refine ⟨⟨h.hB, ?_, ?_, ?_, ?_, ?_⟩, ⟨rfl, rfl, rfl, by simp, ?_, ?_⟩⟩
  · rw [heap_setCell_same w b 7 _ _ _ h.blk]; rfl
  · exact own_heap (xs := []) ho fun k e => hne k (fun e2 => own_ne ho h.blk (by decide) (e2 ▸ e))
  · exact own_heap h.body fun k e => hne k (fun e2 => own_ne h.body h.blk (by decide) (e2 ▸ e))
  · exact own_heap h.trl fun k e => hne k (fun e2 => own_ne h.trl h.blk (by decide) (e2 ▸ e))
  · intro k hk; rw [he] at hk; exact h.apart k hk
  · exact fun k _ hm => hne k (fun e => hm (.inl e))
  · intro k hk
    rcases hk with rfl | hk | hk | hk
    · exact .inl (.inl rfl)
    · exact .inl (.inr (.inl (he ▸ hk)))
    · exact .inl (.inr (.inr (.inl hk)))
    · exact .inl (.inr (.inr (.inr hk)))
/-- the content has a row that is longer -/
theorem Dec.putBody (h : Dec B b s vl vb vt w) (c : UInt8) (ho : w2.ownsRow B 5 1 vb' (s.body.length + 1) (Lib.byteCells s.body ++ [.int .u8 c.toNat])) (hg : w.grownBy w2 vb.ownBlock) (hst : ∀ k, vb'.ownBlock = some k → vb.ownBlock = some k ∨ w.heap.size ≤ k) :
    Dec B b { s with body := s.body ++ [c] } vl vb' vt (w2.setCell ⟨b, 10, none⟩ vb') ∧ Turn b vl vb vt vl vb' vt w (w2.setCell ⟨b, 10, none⟩ vb') := by
  have hl := own_ne h.body h.blk (by decide)
  have hk2 : w2.heap[b]? = some (.cells (dcells b s vl vb vt) 64 (0, 0)) := (hg.block b h.lt (fun e => hl e.symm)).trans h.blk
  have hb2 : w2.ownsRow B 5 1 vl s.line.length (Lib.byteCells s.line) := own_heap h.line fun k e => hg.block k (h.line.lt k e).2 fun e2 => h.apart k e e2.symm
  have ht2 : w2.ownsRow B 40 2 vt s.trl.length (fcells s.trl) := own_heap h.trl fun k e => hg.block k (h.trl.lt k e).2 fun e2 => own_ne2 h.body h.trl (by decide) k e e2.symm
  have hne : ∀ k, k ≠ b → (w2.setCell ⟨b, 10, none⟩ vb').heap[k]? = w2.heap[k]? := fun k hk => Below.heap_setCell _ _ _ _ hk
  have ho2 : w2.ownsRow B 5 1 vb' (s.body ++ [c]).length (Lib.byteCells (s.body ++ [c])) := by
    rw [List.length_append]
    have e : Lib.byteCells (s.body ++ [c]) = Lib.byteCells s.body ++ [.int .u8 c.toNat] := by simp [Lib.byteCells]
    rw [e]; exact ho
  refine ⟨⟨h.hB, ?_, ?_, ?_, ?_, ?_⟩, ⟨hg.os, hg.tape, hg.output, by simpa using hg.size, ?_, ?_⟩⟩
  · rw [heap_setCell_same w2 b 10 _ _ vb' hk2]; rfl
  · exact own_heap hb2 fun k e => hne k (fun e2 => own_ne hb2 hk2 (by decide) (e2 ▸ e))
  · exact own_heap ho2 fun k e => hne k (fun e2 => own_ne ho2 hk2 (by decide) (e2 ▸ e))
  · exact own_heap ht2 fun k e => hne k (fun e2 => own_ne ht2 hk2 (by decide) (e2 ▸ e))
  · intro k hk hv
    rcases hst k hv with h1 | h1
    · exact h.apart k hk h1
    · have := (h.line.lt k hk).2; omega
  · intro k hk hm
    rw [hne k (fun e => hm (.inl e))]
    exact hg.block k hk fun e => hm (.inr (.inr (.inl e.symm)))
  · intro k hk
    rcases hk with rfl | hk | hk | hk
    · exact .inl (.inl rfl)
    · exact .inl (.inr (.inl hk))
    · rcases hst k hk with h1 | h1
      · exact .inl (.inr (.inr (.inl h1)))
      · exact .inr h1
    · exact .inl (.inr (.inr (.inr hk)))
/-- the trailers have a row that is longer -/
theorem Dec.putTrl (h : Dec B b s vl vb vt w) (f : Bs × Bs) (ho : w2.ownsRow B 40 2 vt' (s.trl.length + 1) (fcells s.trl ++ [.string (mkS f.1), .string (mkS f.2)])) (hg : w.grownBy w2 vt.ownBlock) (hst : ∀ k, vt'.ownBlock = some k → vt.ownBlock = some k ∨ w.heap.size ≤ k) :
    Dec B b { s with trl := s.trl ++ [f] } vl vb vt' (w2.setCell ⟨b, 11, none⟩ vt') ∧ Turn b vl vb vt vl vb vt' w (w2.setCell ⟨b, 11, none⟩ vt') := by
  have hl := own_ne h.trl h.blk (by decide)
  have hk2 : w2.heap[b]? = some (.cells (dcells b s vl vb vt) 64 (0, 0)) := (hg.block b h.lt (fun e => hl e.symm)).trans h.blk
  have hl2 : w2.ownsRow B 5 1 vl s.line.length (Lib.byteCells s.line) := own_heap h.line fun k e => hg.block k (h.line.lt k e).2 fun e2 => own_ne2 h.trl h.line (by decide) k e e2.symm
  have hb2 : w2.ownsRow B 5 1 vb s.body.length (Lib.byteCells s.body) := own_heap h.body fun k e => hg.block k (h.body.lt k e).2 fun e2 => own_ne2 h.trl h.body (by decide) k e e2.symm
  have hne : ∀ k, k ≠ b → (w2.setCell ⟨b, 11, none⟩ vt').heap[k]? = w2.heap[k]? := fun k hk => Below.heap_setCell _ _ _ _ hk
  have ho2 : w2.ownsRow B 40 2 vt' (s.trl ++ [f]).length (fcells (s.trl ++ [f])) := by
    rw [List.length_append, fcells_app]
    exact ho
  refine ⟨⟨h.hB, ?_, ?_, ?_, ?_, h.apart⟩, ⟨hg.os, hg.tape, hg.output, by simpa using hg.size, ?_, ?_⟩⟩
  · rw [heap_setCell_same w2 b 11 _ _ vt' hk2]; rfl
  · exact own_heap hl2 fun k e => hne k (fun e2 => own_ne hl2 hk2 (by decide) (e2 ▸ e))
  · exact own_heap hb2 fun k e => hne k (fun e2 => own_ne hb2 hk2 (by decide) (e2 ▸ e))
  · exact own_heap ho2 fun k e => hne k (fun e2 => own_ne ho2 hk2 (by decide) (e2 ▸ e))
  · intro k hk hm
    rw [hne k (fun e => hm (.inl e))]
    exact hg.block k hk fun e => hm (.inr (.inr (.inr e.symm)))
  · intro k hk
    rcases hk with rfl | hk | hk | hk
    · exact .inl (.inl rfl)
    · exact .inl (.inr (.inl hk))
    · exact .inl (.inr (.inr (.inl hk)))
    · rcases hst k hk with h1 | h1
      · exact .inl (.inr (.inr (.inr h1)))
      · exact .inr h1
/-- what was not the first decoder's is not turned: the other stays -/
theorem Dec.other {b2 : Nat} {s2 : Dc} {xl xb xt : Value} (h : Dec B b2 s2 xl xb xt w) (ht : Turn b vl vb vt vl' vb' vt' w w') (ha : ∀ k, Mine b2 xl xb xt k → ¬ Mine b vl vb vt k) : Dec B b2 s2 xl xb xt w' ∧ ∀ k, Mine b2 xl xb xt k → ¬ Mine b vl' vb' vt' k := by
  refine ⟨h.same fun k hk => ht.block k (h.mineLt k hk).2 (ha k hk), fun k hk hm => ?_⟩
  rcases ht.new k hm with h1 | h1
  · exact ha k hk h1
  · have := (h.mineLt k hk).2; omega
end Tk
end Go.Proofs.YtanilbckakoogaaGreatDoor
