/- ChkD ChkA ChkQ ChkB ChkC ChkS ChkT ChkU, put together. -/
import Derived.Test.YtpcdaaijlgilkaaGreatDoorQA
import Derived.WalkSmall
import Derived.LaidEqlPtr
import Derived.BigQuiet
import Derived.Laws.BytesString
import Derived.Lib.ConvBytes
import Derived.Lib.AtoiErrMem
import Derived.Laws.Strings3
import Derived.Lib.IfaceEq
import Derived.Lib.OwnBridge
namespace Go.Proofs.YtpcdaaijlgilkaaGreatDoor
open Go.RowKit
namespace Tk

theorem own_heap {w w' : World} {B n size : Nat} {v : Value} {xs : List Value} {e : TypeId} (h : w.ownsRow B e size v n xs) (hk : ∀ k, v.ownBlock = some k → w'.heap[k]? = w.heap[k]?) : w'.ownsRow B e size v n xs := by
  rcases h.2 with hn | ⟨g, cap, cur, rfl, hb, hgg, rest⟩
  · exact ⟨h.1, .inl hn⟩
  · exact ⟨h.1, .inr ⟨g, cap, cur, rfl, hb, (hk g rfl).trans hgg, rest⟩⟩
/-- the row's capacity kept, its elements given up -/
theorem own_cut {w : World} {B n size : Nat} {v : Value} {xs : List Value} {e : TypeId} (h : w.ownsRow B e size v n xs) (a : Addr) (c : Nat) (hv : v = .slice (some a) n c) : w.ownsRow B e size (.slice (some a) 0 c) 0 [] := by
  rcases h.2 with ⟨hn, -⟩ | ⟨g, cap, cur, he, hb, hgg, hnc, hcm, hcs, ht⟩
  · rw [hn] at hv; cases hv
  · rw [he] at hv
    injection hv with e1 e2 e3
    injection e1 with e1
    subst e1 e3
    exact ⟨by simp, .inr ⟨g, cap, cur, rfl, hb, hgg, Nat.zero_le _, hcm, hcs, by simp⟩⟩
theorem own_ne {w : World} {B n size : Nat} {e T : TypeId} {v : Value} {xs : List Value} {b : Nat} {cs : Array Value} {fr : Nat × Nat} (hown : w.ownsRow B e size v n xs) (hb : w.heap[b]? = some (.cells cs T fr)) (hTe : T ≠ e) : v.ownBlock ≠ some b := by
  rcases hown.2 with ⟨rfl, _⟩ | ⟨g, cap, cur, rfl, _, hg, _⟩
  · simp [Value.ownBlock]
  · intro h
    simp only [Value.ownBlock, Option.some.injEq] at h
    subst h
    rw [hg] at hb
    simp only [Option.some.injEq, Obj.cells.injEq] at hb
    exact hTe hb.2.1.symm
theorem own_ne2 {w : World} {B B' n n' size size' : Nat} {e e' : TypeId} {v v' : Value} {xs xs' : List Value} (h : w.ownsRow B e size v n xs) (h' : w.ownsRow B' e' size' v' n' xs') (hTe : e' ≠ e) (k : Nat) (hk : v'.ownBlock = some k) : v.ownBlock ≠ some k := by
  rcases h'.2 with ⟨rfl, _⟩ | ⟨g, cap, cur, rfl, _, hg, _⟩
  · cases hk
  · simp only [Value.ownBlock, Option.some.injEq] at hk
    subst hk
    exact own_ne h hg hTe

def ptr (b : Nat) : Value := .pointer (some ⟨b, 0, none⟩)
/-- the state that a decoder's field holds -/
def stV (b : Nat) : Nat → Value
  | 0 => .func (.func 92) #[ptr b] #[]
  | 1 => .func (.func 118) #[ptr b] #[]
  | 2 => .func (.func 143) #[ptr b] #[]
  | 3 => .func (.func 155) #[ptr b] #[]
  | 4 => .func (.func 117) #[ptr b] #[]
  | _ => .nilFunc
def dcells (b : Nat) (s : Dc) (vl vb vt : Value) : Array Value :=
  #[ptr b, .int .i64 s.L, .int .i64 s.H, .int .i64 s.C, .int .i64 s.M, stV b s.mode, .int .i64 s.bad, vl, .int .i64 s.left, .int .i64 s.head, vb, vt]

structure Dec (B b : Nat) (s : Dc) (vl vb vt : Value) (w : World) : Prop where
  hB : B ≤ b
  blk : w.heap[b]? = some (.cells (dcells b s vl vb vt) 131 (0, 0))
  line : w.ownsRow B 5 1 vl s.line.length (Lib.byteCells s.line)
  body : w.ownsRow B 5 1 vb s.body.length (Lib.byteCells s.body)
  trl : w.ownsRow B 84 2 vt s.trl.length (fcells s.trl)
  apart : ∀ k, vl.ownBlock = some k → vb.ownBlock ≠ some k

/-- the blocks of a decoder -/
def Mine (b : Nat) (vl vb vt : Value) (k : Nat) : Prop := k = b ∨ vl.ownBlock = some k ∨ vb.ownBlock = some k ∨ vt.ownBlock = some k

structure Turn (b : Nat) (vl vb vt vl' vb' vt' : Value) (w w' : World) : Prop where
  os : w'.os = w.os
  tape : w'.tape = w.tape
  output : w'.output = w.output
  size : w.heap.size ≤ w'.heap.size
  block : ∀ k, k < w.heap.size → ¬ Mine b vl vb vt k → w'.heap[k]? = w.heap[k]?
  new : ∀ k, Mine b vl' vb' vt' k → Mine b vl vb vt k ∨ w.heap.size ≤ k

variable {B b : Nat} {s : Dc} {vl vb vt vl' vb' vt' vl2 vb2 vt2 : Value} {w w' w2 : World}

theorem Dec.lt (h : Dec B b s vl vb vt w) : b < w.heap.size := (Array.getElem?_eq_some_iff.1 h.blk).1
theorem Dec.cell (h : Dec B b s vl vb vt w) (i : Nat) (v : Value) (hv : (dcells b s vl vb vt)[i]? = some v) : w.cell? ⟨b, i, none⟩ = some v := by rw [Lib.cell_of_heap h.blk]; exact hv
theorem Dec.frz (h : Dec B b s vl vb vt w) (i : Nat) : w.frozen? ⟨b, i, none⟩ = false := Lib.frozen_of_heap h.blk i
theorem Dec.mineLt (h : Dec B b s vl vb vt w) (k : Nat) (hk : Mine b vl vb vt k) : B ≤ k ∧ k < w.heap.size := by
  rcases hk with rfl | hk | hk | hk
  · exact ⟨h.hB, h.lt⟩
  · exact h.line.lt k hk
  · exact h.body.lt k hk
  · exact h.trl.lt k hk
theorem Dec.same (h : Dec B b s vl vb vt w) (hk : ∀ k, Mine b vl vb vt k → w'.heap[k]? = w.heap[k]?) : Dec B b s vl vb vt w' :=
  ⟨h.hB, (hk b (.inl rfl)).trans h.blk, own_heap h.line fun k e => hk k (.inr (.inl e)), own_heap h.body fun k e => hk k (.inr (.inr (.inl e))), own_heap h.trl fun k e => hk k (.inr (.inr (.inr e))), h.apart⟩
theorem Dec.below (h : Dec B b s vl vb vt w) (hb : Below w.heap.size w w') : Dec B b s vl vb vt w' := h.same fun k hk => hb.block k (h.mineLt k hk).2
theorem Turn.of (hb : Below w.heap.size w w') : Turn b vl vb vt vl vb vt w w' := ⟨hb.os, hb.tape, hb.output, hb.size, fun k hk _ => hb.block k hk, fun _ hk => .inl hk⟩
theorem Turn.refl : Turn b vl vb vt vl vb vt w w := Turn.of (Below.refl _ _)
theorem Turn.trans (h : Turn b vl vb vt vl' vb' vt' w w') (h2 : Turn b vl' vb' vt' vl2 vb2 vt2 w' w2) : Turn b vl vb vt vl2 vb2 vt2 w w2 := by
  refine ⟨h2.os.trans h.os, h2.tape.trans h.tape, h2.output.trans h.output, Nat.le_trans h.size h2.size, fun k hk hm => ?_, fun k hk => ?_⟩
  · refine (h2.block k (Nat.lt_of_lt_of_le hk h.size) fun hm' => ?_).trans (h.block k hk hm)
    rcases h.new k hm' with h3 | h3
    · exact hm h3
    · omega
  · rcases h2.new k hk with h3 | h3
    · exact h.new k h3
    · exact .inr (Nat.le_trans h.size h3)
theorem Turn.toBelow (h : Turn b vl vb vt vl' vb' vt' w w') (hd : Dec B b s vl vb vt w) : Below B w w' :=
  ⟨h.os, h.tape, h.output, h.size, fun k hk => h.block k (by have := hd.hB; have := hd.lt; omega) fun hm => by have := (hd.mineLt k hm).1; omega⟩

/-- a field that is no row is stored -/
theorem Dec.set (h : Dec B b s vl vb vt w) (i : Nat) (u : Value) (s' : Dc) (hs : (dcells b s vl vb vt).setIfInBounds i u = dcells b s' vl vb vt) (h1 : s'.line = s.line) (h2 : s'.body = s.body) (h3 : s'.trl = s.trl) : Dec B b s' vl vb vt (w.setCell ⟨b, i, none⟩ u) := by
  have hne : ∀ k, k ≠ b → (w.setCell ⟨b, i, none⟩ u).heap[k]? = w.heap[k]? := fun k hk => Below.heap_setCell _ _ _ _ hk
  refine ⟨h.hB, ?_, ?_, ?_, ?_, h.apart⟩
  · rw [heap_setCell_same w b i _ _ u h.blk, hs]
  · rw [h1]; exact own_heap h.line fun k e => hne k (fun e2 => own_ne h.line h.blk (by decide) (e2 ▸ e))
  · rw [h2]; exact own_heap h.body fun k e => hne k (fun e2 => own_ne h.body h.blk (by decide) (e2 ▸ e))
  · rw [h3]; exact own_heap h.trl fun k e => hne k (fun e2 => own_ne h.trl h.blk (by decide) (e2 ▸ e))
theorem Turn.set (i : Nat) (u : Value) : Turn b vl vb vt vl vb vt w (w.setCell ⟨b, i, none⟩ u) :=
  ⟨rfl, rfl, rfl, by simp, fun k _ hm => Below.heap_setCell _ _ _ _ (fun e => hm (.inl e)), fun _ hk => .inl hk⟩

/-- it goes on with a decoder s' -/
def DecTo (B b : Nat) (s' : Dc) (vl vb vt : Value) (w w' : World) : Prop := ∃ vl' vb' vt', Dec B b s' vl' vb' vt' w' ∧ Turn b vl vb vt vl' vb' vt' w w'

/-- the line has a row that is longer -/
theorem Dec.putLine (h : Dec B b s vl vb vt w) (c : UInt8) (ho : w2.ownsRow B 5 1 vl' (s.line.length + 1) (Lib.byteCells s.line ++ [.int .u8 c.toNat])) (hg : w.grownBy w2 vl.ownBlock) (hst : ∀ k, vl'.ownBlock = some k → vl.ownBlock = some k ∨ w.heap.size ≤ k) :
    Dec B b { s with line := s.line ++ [c] } vl' vb vt (w2.setCell ⟨b, 7, none⟩ vl') ∧ Turn b vl vb vt vl' vb vt w (w2.setCell ⟨b, 7, none⟩ vl') := by
  have hl := own_ne h.line h.blk (by decide)
  have hk2 : w2.heap[b]? = some (.cells (dcells b s vl vb vt) 131 (0, 0)) := (hg.block b h.lt (fun e => hl e.symm)).trans h.blk
  have hb2 : w2.ownsRow B 5 1 vb s.body.length (Lib.byteCells s.body) := own_heap h.body fun k e => hg.block k (h.body.lt k e).2 fun e2 => h.apart k e2.symm e
  have ht2 : w2.ownsRow B 84 2 vt s.trl.length (fcells s.trl) := own_heap h.trl fun k e => hg.block k (h.trl.lt k e).2 fun e2 => own_ne2 h.line h.trl (by decide) k e e2.symm
  have hne : ∀ k, k ≠ b → (w2.setCell ⟨b, 7, none⟩ vl').heap[k]? = w2.heap[k]? := fun k hk => Below.heap_setCell _ _ _ _ hk
  have ho2 : w2.ownsRow B 5 1 vl' (s.line ++ [c]).length (Lib.byteCells (s.line ++ [c])) := by
    rw [List.length_append]
    have e : Lib.byteCells (s.line ++ [c]) = Lib.byteCells s.line ++ [.int .u8 c.toNat] := by simp [Lib.byteCells]
    rw [e]; exact ho
  refine ⟨⟨h.hB, ?_, ?_, ?_, ?_, ?_⟩, ⟨hg.os, hg.tape, hg.output, by simpa using hg.size, ?_, ?_⟩⟩
  · rw [heap_setCell_same w2 b 7 _ _ vl' hk2]; rfl
  · exact own_heap ho2 fun k e => hne k (fun e2 => own_ne ho2 hk2 (by decide) (e2 ▸ e))
  · exact own_heap hb2 fun k e => hne k (fun e2 => own_ne hb2 hk2 (by decide) (e2 ▸ e))
  · exact own_heap ht2 fun k e => hne k (fun e2 => own_ne ht2 hk2 (by decide) (e2 ▸ e))
  · intro k hk hv
    rcases hst k hk with h1 | h1
    · exact h.apart k h1 hv
    · have := (h.body.lt k hv).2; omega
  · intro k hk hm
    rw [hne k (fun e => hm (.inl e))]
    exact hg.block k hk fun e => hm (.inr (.inl e.symm))
  · intro k hk
    rcases hk with rfl | hk | hk | hk
    · exact .inl (.inl rfl)
    · rcases hst k hk with h1 | h1
      · exact .inl (.inr (.inl h1))
      · exact .inr h1
    · exact .inl (.inr (.inr (.inl hk)))
    · exact .inl (.inr (.inr (.inr hk)))
/-- the line begins anew -/
theorem Dec.cutLine (h : Dec B b s vl vb vt w) (a : Addr) (c : Nat) (hv : vl = .slice (some a) s.line.length c) :
    Dec B b { s with line := [] } (.slice (some a) 0 c) vb vt (w.setCell ⟨b, 7, none⟩ (.slice (some a) 0 c)) ∧ Turn b vl vb vt (.slice (some a) 0 c) vb vt w (w.setCell ⟨b, 7, none⟩ (.slice (some a) 0 c)) := by
  have ho := own_cut h.line a c hv
  have he : (Value.slice (some a) 0 c).ownBlock = vl.ownBlock := by rw [hv]; rfl
  have hne : ∀ k, k ≠ b → (w.setCell ⟨b, 7, none⟩ (.slice (some a) 0 c)).heap[k]? = w.heap[k]? := fun k hk => Below.heap_setCell _ _ _ _ hk
  refine ⟨⟨h.hB, ?_, ?_, ?_, ?_, ?_⟩, ⟨rfl, rfl, rfl, by simp, ?_, ?_⟩⟩
  · rw [heap_setCell_same w b 7 _ _ _ h.blk]; rfl
  · exact own_heap (xs := []) ho fun k e => hne k (fun e2 => own_ne ho h.blk (by decide) (e2 ▸ e))
  · exact own_heap h.body fun k e => hne k (fun e2 => own_ne h.body h.blk (by decide) (e2 ▸ e))
  · exact own_heap h.trl fun k e => hne k (fun e2 => own_ne h.trl h.blk (by decide) (e2 ▸ e))
  · intro k hk; rw [he] at hk; exact h.apart k hk
  · exact fun k _ hm => hne k (fun e => hm (.inl e))
  · intro k hk
    rcases hk with rfl | hk | hk | hk
    · exact .inl (.inl rfl)
    · exact .inl (.inr (.inl (he ▸ hk)))
    · exact .inl (.inr (.inr (.inl hk)))
    · exact .inl (.inr (.inr (.inr hk)))
/-- the content has a row that is longer -/
theorem Dec.putBody (h : Dec B b s vl vb vt w) (c : UInt8) (ho : w2.ownsRow B 5 1 vb' (s.body.length + 1) (Lib.byteCells s.body ++ [.int .u8 c.toNat])) (hg : w.grownBy w2 vb.ownBlock) (hst : ∀ k, vb'.ownBlock = some k → vb.ownBlock = some k ∨ w.heap.size ≤ k) :
    Dec B b { s with body := s.body ++ [c] } vl vb' vt (w2.setCell ⟨b, 10, none⟩ vb') ∧ Turn b vl vb vt vl vb' vt w (w2.setCell ⟨b, 10, none⟩ vb') := by
  have hl := own_ne h.body h.blk (by decide)
  have hk2 : w2.heap[b]? = some (.cells (dcells b s vl vb vt) 131 (0, 0)) := (hg.block b h.lt (fun e => hl e.symm)).trans h.blk
  have hb2 : w2.ownsRow B 5 1 vl s.line.length (Lib.byteCells s.line) := own_heap h.line fun k e => hg.block k (h.line.lt k e).2 fun e2 => h.apart k e e2.symm
  have ht2 : w2.ownsRow B 84 2 vt s.trl.length (fcells s.trl) := own_heap h.trl fun k e => hg.block k (h.trl.lt k e).2 fun e2 => own_ne2 h.body h.trl (by decide) k e e2.symm
  have hne : ∀ k, k ≠ b → (w2.setCell ⟨b, 10, none⟩ vb').heap[k]? = w2.heap[k]? := fun k hk => Below.heap_setCell _ _ _ _ hk
  have ho2 : w2.ownsRow B 5 1 vb' (s.body ++ [c]).length (Lib.byteCells (s.body ++ [c])) := by
    rw [List.length_append]
    have e : Lib.byteCells (s.body ++ [c]) = Lib.byteCells s.body ++ [.int .u8 c.toNat] := by simp [Lib.byteCells]
    rw [e]; exact ho
  refine ⟨⟨h.hB, ?_, ?_, ?_, ?_, ?_⟩, ⟨hg.os, hg.tape, hg.output, by simpa using hg.size, ?_, ?_⟩⟩
  · rw [heap_setCell_same w2 b 10 _ _ vb' hk2]; rfl
  · exact own_heap hb2 fun k e => hne k (fun e2 => own_ne hb2 hk2 (by decide) (e2 ▸ e))
  · exact own_heap ho2 fun k e => hne k (fun e2 => own_ne ho2 hk2 (by decide) (e2 ▸ e))
  · exact own_heap ht2 fun k e => hne k (fun e2 => own_ne ht2 hk2 (by decide) (e2 ▸ e))
  · intro k hk hv
    rcases hst k hv with h1 | h1
    · exact h.apart k hk h1
    · have := (h.line.lt k hk).2; omega
  · intro k hk hm
    rw [hne k (fun e => hm (.inl e))]
    exact hg.block k hk fun e => hm (.inr (.inr (.inl e.symm)))
  · intro k hk
    rcases hk with rfl | hk | hk | hk
    · exact .inl (.inl rfl)
    · exact .inl (.inr (.inl hk))
    · rcases hst k hk with h1 | h1
      · exact .inl (.inr (.inr (.inl h1)))
      · exact .inr h1
    · exact .inl (.inr (.inr (.inr hk)))
/-- the trailers have a row that is longer -/
theorem Dec.putTrl (h : Dec B b s vl vb vt w) (f : Bs × Bs) (ho : w2.ownsRow B 84 2 vt' (s.trl.length + 1) (fcells s.trl ++ [.string (mkS f.1), .string (mkS f.2)])) (hg : w.grownBy w2 vt.ownBlock) (hst : ∀ k, vt'.ownBlock = some k → vt.ownBlock = some k ∨ w.heap.size ≤ k) :
    Dec B b { s with trl := s.trl ++ [f] } vl vb vt' (w2.setCell ⟨b, 11, none⟩ vt') ∧ Turn b vl vb vt vl vb vt' w (w2.setCell ⟨b, 11, none⟩ vt') := by
  have hl := own_ne h.trl h.blk (by decide)
  have hk2 : w2.heap[b]? = some (.cells (dcells b s vl vb vt) 131 (0, 0)) := (hg.block b h.lt (fun e => hl e.symm)).trans h.blk
  have hl2 : w2.ownsRow B 5 1 vl s.line.length (Lib.byteCells s.line) := own_heap h.line fun k e => hg.block k (h.line.lt k e).2 fun e2 => own_ne2 h.trl h.line (by decide) k e e2.symm
  have hb2 : w2.ownsRow B 5 1 vb s.body.length (Lib.byteCells s.body) := own_heap h.body fun k e => hg.block k (h.body.lt k e).2 fun e2 => own_ne2 h.trl h.body (by decide) k e e2.symm
  have hne : ∀ k, k ≠ b → (w2.setCell ⟨b, 11, none⟩ vt').heap[k]? = w2.heap[k]? := fun k hk => Below.heap_setCell _ _ _ _ hk
  have ho2 : w2.ownsRow B 84 2 vt' (s.trl ++ [f]).length (fcells (s.trl ++ [f])) := by
    rw [List.length_append, fcells_app]
    exact ho
  refine ⟨⟨h.hB, ?_, ?_, ?_, ?_, h.apart⟩, ⟨hg.os, hg.tape, hg.output, by simpa using hg.size, ?_, ?_⟩⟩
  · rw [heap_setCell_same w2 b 11 _ _ vt' hk2]; rfl
  · exact own_heap hl2 fun k e => hne k (fun e2 => own_ne hl2 hk2 (by decide) (e2 ▸ e))
  · exact own_heap hb2 fun k e => hne k (fun e2 => own_ne hb2 hk2 (by decide) (e2 ▸ e))
  · exact own_heap ho2 fun k e => hne k (fun e2 => own_ne ho2 hk2 (by decide) (e2 ▸ e))
  · intro k hk hm
    rw [hne k (fun e => hm (.inl e))]
    exact hg.block k hk fun e => hm (.inr (.inr (.inr e.symm)))
  · intro k hk
    rcases hk with rfl | hk | hk | hk
    · exact .inl (.inl rfl)
    · exact .inl (.inr (.inl hk))
    · exact .inl (.inr (.inr (.inl hk)))
    · rcases hst k hk with h1 | h1
      · exact .inl (.inr (.inr (.inr h1)))
      · exact .inr h1
/-- what was not the first decoder's is not turned: the other stays -/
theorem Dec.other {b2 : Nat} {s2 : Dc} {xl xb xt : Value} (h : Dec B b2 s2 xl xb xt w) (ht : Turn b vl vb vt vl' vb' vt' w w') (ha : ∀ k, Mine b2 xl xb xt k → ¬ Mine b vl vb vt k) : Dec B b2 s2 xl xb xt w' ∧ ∀ k, Mine b2 xl xb xt k → ¬ Mine b vl' vb' vt' k := by
  refine ⟨h.same fun k hk => ht.block k (h.mineLt k hk).2 (ha k hk), fun k hk hm => ?_⟩
  rcases ht.new k hm with h1 | h1
  · exact ha k hk h1
  · have := (h.mineLt k hk).2; omega
end Tk
end Go.Proofs.YtpcdaaijlgilkaaGreatDoor
namespace Go.Proofs.YtpcdaaijlgilkaaGreatDoor
open Go.RowKit
namespace Tk

theorem decInfo : (Tryz.prog.info? 131).map (·.size) = some 12 := by kernel_rfl
def flawP (n : Nat) : List PanicEntry := [{ v := .iface 129 (.int .i64 n), recovered := false }]

set_option maxHeartbeats 1000000 in
set_option maxRecDepth 100000 in
theorem dataCR_any (b : Nat) (c : UInt8) (w : World) :
    Calls Tryz.prog 143 #[ptr b, .int .u8 c.toNat] w fun e w' => e = (if c = 13 then .returned (stV b 3) else .panicked (flawP 400)) ∧ w' = w := by
  have hmf : ∀ (fn : Fn) (first cap : Array Value) (w : World), (Instr.makeFunc fn first cap).run Tryz.prog w = .ok (.func fn first cap) w := fun _ _ _ _ => rfl
  unfold ptr
  cases hc : ((c.toNat : Int) == 13)
  · have hn := u8_not c 13 hc (by decide)
    have HN := Lib.hid hn
    have hc2 : ((c.toNat : Int) != 13) = true := by simp [bne, hc]
    clear hn
    go_enter Tryz.func143, Tryz.ntmps143
    go_wp2
    exact ⟨rfl, rfl, rfl⟩
  · have hn := u8_is c 13 (by decide) hc
    have HN := Lib.hid hn
    have hc2 : ((c.toNat : Int) != 13) = false := by simp [bne, hc]
    clear hn
    go_enter Tryz.func143, Tryz.ntmps143
    go_wp2
    go_ret
    exact ⟨rfl, rfl⟩
set_option maxHeartbeats 1000000 in
set_option maxRecDepth 100000 in
theorem dataLF_any (b : Nat) (c : UInt8) (w : World) :
    Calls Tryz.prog 155 #[ptr b, .int .u8 c.toNat] w fun e w' => e = (if c = 10 then .returned (stV b 0) else .panicked (flawP 400)) ∧ w' = w := by
  have hmf : ∀ (fn : Fn) (first cap : Array Value) (w : World), (Instr.makeFunc fn first cap).run Tryz.prog w = .ok (.func fn first cap) w := fun _ _ _ _ => rfl
  unfold ptr
  cases hc : ((c.toNat : Int) == 10)
  · have hn := u8_not c 10 hc (by decide)
    have HN := Lib.hid hn
    have hc2 : ((c.toNat : Int) != 10) = true := by simp [bne, hc]
    clear hn
    go_enter Tryz.func155, Tryz.ntmps155
    go_wp2
    exact ⟨rfl, rfl, rfl⟩
  · have hn := u8_is c 10 (by decide) hc
    have HN := Lib.hid hn
    have hc2 : ((c.toNat : Int) != 10) = false := by simp [bne, hc]
    clear hn
    go_enter Tryz.func155, Tryz.ntmps155
    go_wp2
    go_ret
    exact ⟨rfl, rfl⟩

set_option maxHeartbeats 1000000 in
set_option maxRecDepth 100000 in
theorem made_any {B b : Nat} {s : Dc} {vl vb vt : Value} {w : World} (h : Dec B b s vl vb vt w) :
    Calls Tryz.prog 119 #[ptr b] w fun e w' => e = .returned (.bool true) ∧ w' = w := by
  obtain ⟨j, hj, _⟩ := Option.map_eq_some_iff.1 decInfo
  have c0 : w.cell? ⟨b, 0, none⟩ = some (.pointer (some ⟨b, 0, none⟩)) := h.cell 0 _ rfl
  have hq := run_eql_ptr_same (P := Tryz.prog) w ⟨b, 0, none⟩ Tryz.underlying68 hj
  clear h
  unfold ptr
  go_enter Tryz.func119, Tryz.ntmps119
  go_wp2
  go_ret
  exact ⟨rfl, rfl⟩
set_option maxHeartbeats 1000000 in
set_option maxRecDepth 100000 in
theorem made_nil (w : World) :
    Calls Tryz.prog 119 #[.pointer none] w fun e w' => e = .returned (.bool false) ∧ w' = w := by
  go_enter Tryz.func119, Tryz.ntmps119
  go_wp2
  go_ret
  exact ⟨rfl, rfl⟩

set_option maxHeartbeats 2000000 in
set_option maxRecDepth 100000 in
theorem data_any {B b : Nat} {s : Dc} {vl vb vt : Value} (c : UInt8) {w : World} (h : Dec B b s vl vb vt w) (hm : s.mode = 1) (hl : 1 ≤ s.left) (hf : s.left ≤ 9007199254740991) (hz : s.body.length + 1 ≤ 1099511627776) :
    Calls Tryz.prog 118 #[ptr b, .int .u8 c.toNat] w fun e w' => e = .returned (stV b (if 1 < s.left then 1 else 2)) ∧ DecTo B b { s with body := s.body ++ [c], left := s.left - 1 } vl vb vt w w' := by
  have hmf : ∀ (fn : Fn) (first cap : Array Value) (w : World), (Instr.makeFunc fn first cap).run Tryz.prog w = .ok (.func fn first cap) w := fun _ _ _ _ => rfl
  obtain ⟨i0, hi, hz0, hz1, hz2⟩ := info_parts byteInf
  have c10 : w.cell? ⟨b, 10, none⟩ = some vb := h.cell 10 _ rfl
  have hw0 : Below w.heap.size w (w.alloc (.cells #[.int .u8 c.toNat] 5)) := (Below.refl _ _).alloc (Nat.le_refl _) _
  have h0 := h.below hw0
  have T0 : Turn b vl vb vt vl vb vt w (w.alloc (.cells #[.int .u8 c.toNat] 5)) := Turn.of hw0
  have hBs : B ≤ (w.alloc (.cells #[.int .u8 c.toNat] 5)).heap.size := by have := h.hB; have := h.lt; simp; omega
  have hnew : (w.alloc (.cells #[.int .u8 c.toNat] 5)).cell? ⟨w.heap.size, 0, none⟩ = some (.int .u8 c.toNat) := by rw [Lib.cell_of_heap (heap_alloc_last w _)]; rfl
  have HT0 := Lib.hid T0
  have H0 := Lib.hid h0
  have HM := Lib.hid hm
  clear h hw0 T0 h0 hm
  unfold ptr
  go_enter Tryz.func118, Tryz.ntmps118
  go_wp2_with (at_builtin; refine append_stay (by rfl) _ _ 65 rfl B 5 i0 (.int .u8 0) 1 1 Tryz.underlying65 hi hz0 hz1 hz2 rfl (by decide) _ _ _ rfl H0.out.body ⟨w.heap.size, 0, none⟩ 1 1 [.int .u8 c.toNat] rfl rfl ?c1 ?c2 ?c3 ?c4 hBs ?_)
  case c1 =>
    intro j u hj
    match j, hj with
    | 0, hj => simp at hj; subst hj; exact hnew
  case c2 => intro u hu; simp at hu; subst hu; rfl
  case c3 => unfold maxLen; omega
  case c4 => omega
  intro v' w2 ho hg hst
  obtain ⟨g, cap, rfl⟩ : ∃ g cap, v' = .slice (some ⟨g, 0, none⟩) (s.body.length + 1) cap := by
    rcases ho.2 with ⟨_, h0⟩ | ⟨g, cap, cur, hv, _⟩
    · omega
    · exact ⟨g, cap, hv⟩
  obtain ⟨hd, ht⟩ := H0.out.putBody c ho hg hst
  have hk2 : w2.heap[b]? = some (.cells (dcells b s vl vb vt) 131 (0, 0)) := (hg.block b H0.out.lt (fun e => own_ne H0.out.body H0.out.blk (by decide) e.symm)).trans H0.out.blk
  have k10 : w2.cell? ⟨b, 10, none⟩ = some vb := by rw [Lib.cell_of_heap hk2]; rfl
  have f10 : w2.frozen? ⟨b, 10, none⟩ = false := Lib.frozen_of_heap hk2 10
  have k8 : w2.cell? ⟨b, 8, none⟩ = some (.int .i64 s.left) := by rw [Lib.cell_of_heap hk2]; rfl
  have f8 : w2.frozen? ⟨b, 8, none⟩ = false := Lib.frozen_of_heap hk2 8
  have k5 : w2.cell? ⟨b, 5, none⟩ = some (stV b 1) := by rw [Lib.cell_of_heap hk2, ← HM.out]; rfl
  have hd3 := hd.set 8 (.int .i64 ((s.left : Int) - 1)) { s with body := s.body ++ [c], left := s.left - 1 } (by show _ = dcells _ _ _ _ _; rw [show (s.left : Int) - 1 = ((s.left - 1 : Nat) : Int) by omega]; rfl) rfl rfl rfl
  have ht3 := (HT0.out.trans ht).trans (Turn.set 8 (.int .i64 ((s.left : Int) - 1)))
  have HR := Lib.hid (show DecTo B b { s with body := s.body ++ [c], left := s.left - 1 } vl vb vt w _ from ⟨_, _, _, hd3, ht3⟩)
  clear hd ht hd3 ht3 ho hg hst hk2 hnew c10
  unfold stV at k5
  by_cases h1 : 1 < s.left
  · have e1 : (0 : Int) < (s.left : Int) - 1 := by omega
    go_wp2
    go_ret
    first | exact ⟨rfl, HR.out⟩ | exact ⟨by rw [if_pos h1]; rfl, HR.out⟩
  · have e1 : ¬ (0 : Int) < (s.left : Int) - 1 := by omega
    go_wp2
    go_ret
    first | exact ⟨rfl, HR.out⟩ | exact ⟨by rw [if_neg h1]; rfl, HR.out⟩
end Tk
end Go.Proofs.YtpcdaaijlgilkaaGreatDoor
namespace Go.Proofs.YtpcdaaijlgilkaaGreatDoor
namespace Tk

def hexc (d : Nat) : UInt8 := if d < 10 then UInt8.ofNat (48 + d) else UInt8.ofNat (87 + d)
def hexC (d : Nat) : UInt8 := if d < 10 then UInt8.ofNat (48 + d) else UInt8.ofNat (55 + d)
/-- a number's digits by sixteen, with the digits f -/
def hexF (f : Nat → UInt8) (n : Nat) : Bs := if _h : n < 16 then [f n] else hexF f (n / 16) ++ [f (n % 16)]
abbrev hexL (n : Nat) : Bs := hexF hexc n
theorem hexF_small (f : Nat → UInt8) (n : Nat) (h : n < 16) : hexF f n = [f n] := by rw [hexF, dif_pos h]
theorem hexF_big (f : Nat → UInt8) (n : Nat) (h : ¬ n < 16) : hexF f n = hexF f (n / 16) ++ [f (n % 16)] := by rw [hexF, dif_neg h]
theorem hexD_c : ∀ d, d < 16 → hexD (hexc d) = some d := by decide
theorem hexD_C : ∀ d, d < 16 → hexD (hexC d) = some d := by decide

theorem hexGo_append : ∀ (x : Bs) (n : Nat) (y : Bs), hexGo n (x ++ y) = (hexGo n x).bind fun m => hexGo m y
  | [], n, y => rfl
  | c :: t, n, y => by
    simp only [List.cons_append, hexGo]
    cases hexD c with
    | none => rfl
    | some d => exact hexGo_append t _ y
theorem hexGo_mem : ∀ (l : Bs) (n m : Nat), hexGo n l = some m → ∀ c ∈ l, hexD c ≠ none
  | [], n, m, _, c, hc => by cases hc
  | a :: t, n, m, h, c, hc => by
    simp only [hexGo] at h
    cases ha : hexD a with
    | none => rw [ha] at h; cases h
    | some d =>
      rw [ha] at h
      rcases List.mem_cons.1 hc with rfl | hc
      · rw [ha]; simp
      · exact hexGo_mem t _ m h c hc
theorem hexGo_bad : ∀ (l : Bs) (n : Nat), (∃ c ∈ l, hexD c = none) → hexGo n l = none
  | [], n, h => by simp at h
  | a :: t, n, h => by
    simp only [hexGo]
    cases ha : hexD a with
    | none => rfl
    | some d =>
      obtain ⟨c, hc, h0⟩ := h
      rcases List.mem_cons.1 hc with rfl | hc
      · rw [ha] at h0; cases h0
      · exact hexGo_bad t _ ⟨c, hc, h0⟩
theorem hexGo_F (f : Nat → UInt8) (hf : ∀ d, d < 16 → hexD (f d) = some d) : ∀ (k n : Nat), n ≤ k → hexGo 0 (hexF f n) = some n
  | 0, n, h => by
    rw [hexF_small f n (by omega)]
    simp only [hexGo, hf n (by omega)]
    congr 1; omega
  | k + 1, n, h => by
    by_cases hn : n < 16
    · rw [hexF_small f n hn]
      simp only [hexGo, hf n hn]
      congr 1; omega
    · rw [hexF_big f n hn, hexGo_append, hexGo_F f hf k (n / 16) (by omega)]
      simp only [Option.bind_some, hexGo, hf (n % 16) (by omega)]
      congr 1; omega
theorem hexGo_zeros : ∀ (k : Nat) (l : Bs), hexGo 0 (List.replicate k 48 ++ l) = hexGo 0 l
  | 0, l => rfl
  | k + 1, l => by
    rw [List.replicate_succ, List.cons_append]
    show hexGo 0 (List.replicate k 48 ++ l) = _
    exact hexGo_zeros k l
theorem hexF_ne (f : Nat → UInt8) (n : Nat) : hexF f n ≠ [] := by rw [hexF]; split <;> simp
theorem hexF_len (f : Nat → UInt8) : ∀ (k n : Nat), n < 16 ^ (k + 1) → (hexF f n).length ≤ k + 1
  | 0, n, h => by rw [hexF_small f n (by omega)]; simp
  | k + 1, n, h => by
    by_cases hn : n < 16
    · rw [hexF_small f n hn]; simp
    · rw [hexF_big f n hn, List.length_append]
      have := hexF_len f k (n / 16) (by rw [Nat.pow_succ] at h; omega)
      simp; omega
theorem hex_ne (c : UInt8) (h : hexD c ≠ none) : c ≠ 59 ∧ c ≠ 13 ∧ c ≠ 10 := by
  refine ⟨?_, ?_, ?_⟩ <;> (rintro rfl; exact h rfl)
theorem cutC_none (c : UInt8) (l : Bs) (h : ∀ x ∈ l, x ≠ c) : cutL c l = (l, [], false) := by
  have : l.contains c = false := by
    cases hc : l.contains c
    · rfl
    · exact absurd rfl (h c (by simpa using hc))
  unfold cutL; rw [this]; rfl
theorem cut_at (c : UInt8) (l r : Bs) (h : ∀ x ∈ l, x ≠ c) : cutL c (l ++ c :: r) = (l, r, true) := by
  have hp : ∀ x ∈ l, (x != c) = true := fun x hx => by simp [h x hx]
  unfold cutL
  rw [if_pos (by simp), List.takeWhile_append_of_pos hp, List.takeWhile_cons, List.dropWhile_append_of_pos hp, List.dropWhile_cons]
  simp
/-- the size of digits alone -/
theorem sizeL_digits (l : Bs) (n : Nat) (hl : l.length ≤ 16) (hne : l ≠ []) (hg : hexGo 0 l = some n) (hn : n ≤ 9007199254740991) : sizeL l = (n, 0) := by
  have hc := cutC_none 59 l (fun x hx => (hex_ne x (hexGo_mem l 0 n hg x hx)).1)
  have hN : hexN l = some n := by unfold hexN; rw [if_neg hne]; exact hg
  unfold sizeL
  rw [hc]
  simp only
  rw [if_neg (by omega), if_pos (by rfl), hN]
  simp only
  rw [if_neg (by omega)]
/-- .. and with what stands behind a semicolon -/
theorem sizeL_more (l r : Bs) (n : Nat) (hl : l.length ≤ 16) (hne : l ≠ []) (hg : hexGo 0 l = some n) (hn : n ≤ 9007199254740991) : sizeL (l ++ 59 :: r) = if allL 1 r then (n, 0) else (0, 400) := by
  have hc := cut_at 59 l r (fun x hx => (hex_ne x (hexGo_mem l 0 n hg x hx)).1)
  have hN : hexN l = some n := by unfold hexN; rw [if_neg hne]; exact hg
  unfold sizeL
  rw [hc]
  simp only
  rw [if_neg (by omega), hN]
  simp only
  rw [if_neg (by omega : ¬ 9007199254740991 < n)]
theorem sizeL_hex (n : Nat) (h : n ≤ 9007199254740991) : sizeL (hexL n) = (n, 0) :=
  sizeL_digits _ n (Nat.le_trans (hexF_len hexc 13 n (by omega)) (by omega)) (hexF_ne _ _) (hexGo_F hexc hexD_c n n (Nat.le_refl _)) h

theorem stop_no (s : Dc) (hm : s.mode ≠ 5) (hb : s.bad = 0) : stopD s = false := by simp [stopD, hm, hb]
theorem stepD_0 (s : Dc) (c : UInt8) (h : s.mode = 0) : stepD s c = match addK s c with
    | 0 => addD s c
    | 1 => sizedD { s with line := [] } (txt s)
    | _ => { addD s c with bad := 400 } := by cases s; simp only at h; subst h; rfl
theorem stepD_1 (s : Dc) (c : UInt8) (h : s.mode = 1) : stepD s c = if 1 < s.left then { s with body := s.body ++ [c], left := s.left - 1 } else { s with body := s.body ++ [c], left := s.left - 1, mode := 2 } := by cases s; simp only at h; subst h; rfl
theorem stepD_2 (s : Dc) (c : UInt8) (h : s.mode = 2) : stepD s c = if c = 13 then { s with mode := 3 } else { s with bad := 400 } := by cases s; simp only at h; subst h; rfl
theorem stepD_3 (s : Dc) (c : UInt8) (h : s.mode = 3) : stepD s c = if c = 10 then { s with mode := 0 } else { s with bad := 400 } := by cases s; simp only at h; subst h; rfl
theorem stepD_4 (s : Dc) (c : UInt8) (h : s.mode = 4) : stepD s c = match addK s c with
    | 0 => if s.H < s.head + 1 then { addD s c with head := s.head + 1, bad := 431 } else { addD s c with head := s.head + 1 }
    | 1 => if s.H < s.head + 1 then { addD s c with head := s.head + 1, bad := 431 } else trailD { s with head := s.head + 1, line := [] } (txt s)
    | _ => { addD s c with head := s.head + 1, bad := 400 } := by cases s; simp only at h; subst h; rfl

/-- a byte of a line that is not its end -/
theorem addK_0 (s : Dc) (c : UInt8) (hc : c ≠ 10) (hr : cr s.line = false) (hl : s.line.length + 1 < s.L) : addK s c = 0 := by
  unfold addK; rw [hr]; simp [hc]; omega
theorem addK_1 (s : Dc) (hr : cr s.line = true) : addK s 10 = 1 := by unfold addK; rw [hr]; rfl
theorem cr_snoc (p : Bs) (c : UInt8) : cr (p ++ [c]) = decide (c = 13) := by unfold cr; simp

/-- all of it is eaten, and s' is behind it -/
def Eats (s : Dc) (a : Bs) (s' : Dc) : Prop := feedD s a = (a.length, s')
theorem Eats.nil (s : Dc) : Eats s [] s := rfl
theorem Eats.append {s s' s'' : Dc} {a b : Bs} (h : Eats s a s') (h2 : Eats s' b s'') : Eats s (a ++ b) s'' := by
  unfold Eats at *
  rw [feedD_append, h]
  simp only [h2, List.length_append]
theorem Eats.one {s : Dc} {c : UInt8} (h : stopD s = false) : Eats s [c] (stepD s c) := by
  unfold Eats
  rw [feedD_cons s c [] h]
  rfl
theorem Eats.cons {s s' : Dc} {c : UInt8} {a : Bs} (h : stopD s = false) (h2 : Eats (stepD s c) a s') : Eats s (c :: a) s' := (Eats.one h).append h2

theorem eat_text : ∀ (t : Bs) (s : Dc) (p : Bs), s.mode = 0 → s.bad = 0 → (∀ c ∈ t, c ≠ 13 ∧ c ≠ 10) → cr p = false → p.length + t.length < s.L → Eats { s with line := p } t { s with line := p ++ t }
  | [], s, p, _, _, _, _, _ => by rw [List.append_nil]; exact Eats.nil _
  | c :: t, s, p, hm, hb, hc, hr, hl => by
    obtain ⟨h13, h10⟩ := hc c (by simp)
    rw [List.length_cons] at hl
    refine Eats.cons (stop_no _ (by simp only [hm]; decide) hb) ?_
    rw [stepD_0 _ _ (by exact hm), addK_0 _ _ h10 (by exact hr) (by simp only; omega)]
    have := eat_text t s (p ++ [c]) hm hb (fun x hx => hc x (by simp [hx])) (by rw [cr_snoc]; simp [h13]) (by simp; omega)
    rw [List.append_assoc, List.singleton_append] at this
    exact this
theorem eat_line (t : Bs) (s : Dc) (hm : s.mode = 0) (hb : s.bad = 0) (hn : s.line = []) (hc : ∀ c ∈ t, c ≠ 13 ∧ c ≠ 10) (hl : t.length + 1 < s.L) : Eats s (t ++ [13, 10]) (sizedD s t) := by
  have e : s = { s with line := [] } := by cases s; simp_all
  have h1 := eat_text t s [] hm hb hc rfl (by simp; omega)
  rw [← e, List.nil_append] at h1
  have hr : cr t = false := by
    unfold cr
    rw [decide_eq_false_iff_not]
    intro h
    exact (hc 13 (List.mem_of_getLast? h)).1 rfl
  refine h1.append (Eats.cons (stop_no _ (by simp only [hm]; decide) hb) ?_)
  rw [stepD_0 _ _ (by exact hm), addK_0 _ _ (by decide) (by exact hr) (by simp only; omega)]
  have h2 : Eats (addD { s with line := t } 13) [10] _ := Eats.one (stop_no _ (by simp only [addD, hm]; decide) hb)
  rw [stepD_0 _ _ (by exact hm), addK_1 _ (by unfold addD; rw [cr_snoc]; rfl)] at h2
  have h3 : txt (addD { s with line := t } 13) = t := by unfold txt addD; simp
  simp only [h3] at h2
  have h4 : ({ addD { s with line := t } 13 with line := [] } : Dc) = s := by unfold addD; exact e.symm
  rw [h4] at h2
  exact h2
theorem eat_text4 : ∀ (t : Bs) (s : Dc) (p : Bs) (h : Nat), s.mode = 4 → s.bad = 0 → (∀ c ∈ t, c ≠ 13 ∧ c ≠ 10) → cr p = false → p.length + t.length < s.L → h + t.length ≤ s.H → Eats { s with line := p, head := h } t { s with line := p ++ t, head := h + t.length }
  | [], s, p, h, _, _, _, _, _, _ => by rw [List.append_nil]; exact Eats.nil _
  | c :: t, s, p, h, hm, hb, hc, hr, hl, hh => by
    obtain ⟨h13, h10⟩ := hc c (by simp)
    rw [List.length_cons] at hl hh
    refine Eats.cons (stop_no _ (by simp only [hm]; decide) hb) ?_
    rw [stepD_4 _ _ (by exact hm), addK_0 _ _ h10 (by exact hr) (by simp only; omega)]
    simp only
    rw [if_neg (by omega)]
    have := eat_text4 t s (p ++ [c]) (h + 1) hm hb (fun x hx => hc x (by simp [hx])) (by rw [cr_snoc]; simp [h13]) (by simp; omega) (by omega)
    rw [List.append_assoc, List.singleton_append, show h + 1 + t.length = h + (c :: t).length by simp; omega] at this
    exact this
theorem eat_line4 (t : Bs) (s : Dc) (hm : s.mode = 4) (hb : s.bad = 0) (hn : s.line = []) (hc : ∀ c ∈ t, c ≠ 13 ∧ c ≠ 10) (hl : t.length + 1 < s.L) (hh : s.head + t.length + 2 ≤ s.H) : Eats s (t ++ [13, 10]) (trailD { s with head := s.head + t.length + 2 } t) := by
  have e : s = { s with line := [], head := s.head } := by cases s; simp_all
  have h1 := eat_text4 t s [] s.head hm hb hc rfl (by simp; omega) (by omega)
  rw [← e, List.nil_append] at h1
  have hr : cr t = false := by
    unfold cr
    rw [decide_eq_false_iff_not]
    intro h
    exact (hc 13 (List.mem_of_getLast? h)).1 rfl
  refine h1.append (Eats.cons (stop_no _ (by simp only [hm]; decide) hb) ?_)
  rw [stepD_4 _ _ (by exact hm), addK_0 _ _ (by decide) (by exact hr) (by simp only; omega)]
  simp only
  rw [if_neg (by omega)]
  have h2 : Eats { addD { s with line := t, head := s.head + t.length } 13 with head := s.head + t.length + 1 } [10] _ := Eats.one (stop_no _ (by simp only [addD, hm]; decide) hb)
  rw [stepD_4 _ _ (by exact hm), addK_1 _ (by unfold addD; rw [cr_snoc]; rfl)] at h2
  simp only at h2
  rw [if_neg (by simp only [addD]; omega)] at h2
  have h3 : txt ({ addD { s with line := t, head := s.head + t.length } 13 with head := s.head + t.length + 1 } : Dc) = t := by unfold txt addD; simp
  simp only [h3] at h2
  have h4 : ({ addD { s with line := t, head := s.head + t.length } 13 with head := s.head + t.length + 1 + 1, line := [] } : Dc) = { s with head := s.head + t.length + 2 } := by unfold addD; simp [hn]
  rw [h4] at h2
  exact h2
theorem eat_data : ∀ (d : Bs) (s : Dc), s.mode = 1 → s.bad = 0 → s.left = d.length → d ≠ [] → Eats s d { s with body := s.body ++ d, left := 0, mode := 2 }
  | [], s, _, _, _, h => absurd rfl h
  | c :: t, s, hm, hb, hl, _ => by
    rw [List.length_cons] at hl
    refine Eats.cons (stop_no _ (by rw [hm]; decide) hb) ?_
    rw [stepD_1 _ _ hm]
    cases t with
    | nil =>
      rw [if_neg (by rw [hl]; simp)]
      have : s.left - 1 = 0 := by rw [hl]; rfl
      rw [this]
      exact Eats.nil _
    | cons a u =>
      rw [if_pos (by rw [hl]; simp)]
      have := eat_data (a :: u) { s with body := s.body ++ [c], left := s.left - 1 } hm hb (by simp only; omega) (by simp)
      simp only [List.append_assoc, List.singleton_append] at this
      exact this
theorem eat_chunk (d : Bs) (s : Dc) (hm : s.mode = 0) (hb : s.bad = 0) (hn : s.line = []) (hd : d ≠ []) (hz : d.length ≤ 9007199254740991) (hl : (hexL d.length).length + 1 < s.L) (hr : s.body.length + d.length ≤ s.M) :
    Eats s (hexL d.length ++ [13, 10] ++ d ++ [13, 10]) { s with body := s.body ++ d, left := 0 } := by
  have hd0 : 0 < d.length := List.length_pos_iff.2 hd
  have h1 := eat_line (hexL d.length) s hm hb hn (fun c hc => (hex_ne c (hexGo_mem _ 0 d.length (hexGo_F hexc hexD_c _ _ (Nat.le_refl _)) c hc)).2) hl
  have h2 : sizedD s (hexL d.length) = { s with mode := 1, left := d.length } := by
    unfold sizedD
    rw [sizeL_hex _ hz]
    simp only
    rw [if_pos trivial, if_neg (by omega), if_neg (by omega)]
  rw [h2] at h1
  have h3 := eat_data d { s with mode := 1, left := d.length } rfl hb rfl hd
  refine (h1.append h3).append (Eats.cons (stop_no _ (by simp) hb) ?_)
  rw [stepD_2 _ _ rfl, if_pos rfl]
  have h4 : Eats ({ s with mode := 3, left := 0, body := s.body ++ d } : Dc) [10] _ := Eats.one (stop_no _ (by simp) hb)
  rw [stepD_3 _ _ rfl, if_pos rfl] at h4
  have h5 : ({ s with mode := 0, left := 0, body := s.body ++ d } : Dc) = { s with body := s.body ++ d, left := 0 } := by cases s; simp_all
  rw [← h5]
  exact h4

/-- content in chunks of k bytes -/
def chunksL (k : Nat) (l : Bs) : Bs :=
  if h : l = [] ∨ k = 0 then [] else hexL (l.take k).length ++ [13, 10] ++ l.take k ++ [13, 10] ++ chunksL k (l.drop k)
termination_by l.length
decreasing_by
  simp only [not_or] at h
  have := List.length_pos_iff.2 h.1
  simp; omega
theorem chunksL_nil (k : Nat) : chunksL k [] = [] := by rw [chunksL]; simp
theorem chunksL_cons (k : Nat) (l : Bs) (hl : l ≠ []) (hk : k ≠ 0) : chunksL k l = hexL (l.take k).length ++ [13, 10] ++ l.take k ++ [13, 10] ++ chunksL k (l.drop k) := by
  rw [chunksL, dif_neg (by simp [hl, hk])]
theorem eat_chunks (k : Nat) (hk : k ≠ 0) : ∀ (n : Nat) (l : Bs) (s : Dc), l.length ≤ n → s.mode = 0 → s.bad = 0 → s.line = [] → s.left = 0 → l.length < 256 → 3 < s.L → s.body.length + l.length ≤ s.M →
    Eats s (chunksL k l) { s with body := s.body ++ l }
  | 0, l, s, h, hm, hb, hn, h0, hl, hL, hM => by
    have : l = [] := List.eq_nil_of_length_eq_zero (by omega)
    subst this
    rw [chunksL_nil, List.append_nil]; exact Eats.nil _
  | n + 1, l, s, h, hm, hb, hn, h0, hl, hL, hM => by
    by_cases he : l = []
    · subst he
      rw [chunksL_nil, List.append_nil]; exact Eats.nil _
    · have hp := List.length_pos_iff.2 he
      rw [chunksL_cons k l he hk]
      have htl : (l.take k).length + (l.drop k).length = l.length := by rw [← List.length_append, List.take_append_drop]
      have hd : l.take k ≠ [] := by simp [he, hk]
      have hdp := List.length_pos_iff.2 hd
      have hx := hexF_len hexc 1 (l.take k).length (by omega)
      have h1 := eat_chunk (l.take k) s hm hb hn hd (by omega) (by show (hexF hexc _).length + 1 < _; omega) (by omega)
      have h2 := eat_chunks k hk n (l.drop k) { s with body := s.body ++ l.take k, left := 0 } (by omega) hm hb hn rfl (by omega) hL (by simp only [List.length_append]; omega)
      have h3 : ({ s with body := s.body ++ l.take k ++ l.drop k, left := 0 } : Dc) = { s with body := s.body ++ l } := by rw [List.append_assoc, List.take_append_drop]; cases s; simp_all
      have h4 := h1.append h2
      rw [← h3]; exact h4

/-- what Encode writes of a body, of these lines of trailers -/
def encL (k : Nat) (body lines : Bs) : Bs := chunksL k body ++ [48, 13, 10] ++ lines ++ [13, 10]
def sumF1 : Bs := [83, 117, 109, 58, 32, 49]
/-- the roomy limits -/
def roomD : Dc := newD 200 1000 30 1000
theorem eat_enc (k : Nat) (body : Bs) (hk : k ≠ 0 ∨ body = []) (hb : body.length ≤ 200) :
    Eats roomD (encL k body (sumF1 ++ [13, 10])) { roomD with mode := 5, body := body, head := 10, trl := [([83, 117, 109], [49])] } := by
  have h1 : Eats roomD (chunksL k body) { roomD with body := body } := by
    rcases hk with hk | rfl
    · exact eat_chunks k hk body.length body roomD (Nat.le_refl _) rfl rfl rfl rfl (by omega) (by decide) (by show 0 + body.length ≤ 1000; omega)
    · rw [chunksL_nil]; exact Eats.nil _
  have h2 : Eats { roomD with body := body } [48, 13, 10] { roomD with body := body, mode := 4 } := by
    have := eat_line [48] { roomD with body := body } rfl rfl rfl (by simp) (by show [48].length + 1 < 200; decide)
    have e : sizedD { roomD with body := body } [48] = { roomD with body := body, mode := 4 } := by
      unfold sizedD
      rw [show sizeL [48] = (0, 0) by decide]
      simp
    rw [e] at this; exact this
  have h3 : Eats { roomD with body := body, mode := 4 } (sumF1 ++ [13, 10]) { roomD with body := body, mode := 4, head := 8, trl := [([83, 117, 109], [49])] } := by
    have := eat_line4 sumF1 { roomD with body := body, mode := 4 } rfl rfl rfl (by decide) (by show sumF1.length + 1 < 200; decide) (by show 0 + sumF1.length + 2 ≤ 1000; decide)
    have e : trailD { roomD with body := body, mode := 4, head := 0 + sumF1.length + 2 } sumF1 = { roomD with body := body, mode := 4, head := 8, trl := [([83, 117, 109], [49])] } := by
      unfold trailD
      rw [if_neg (by decide), if_pos (by decide), if_neg (by show ¬ 30 ≤ 0; decide)]
      rfl
    have this : Eats { roomD with body := body, mode := 4 } (sumF1 ++ [13, 10]) (trailD { roomD with body := body, mode := 4, head := 0 + sumF1.length + 2 } sumF1) := this
    rw [e] at this; exact this
  have h4 : Eats { roomD with body := body, mode := 4, head := 8, trl := [([83, 117, 109], [49])] } [13, 10] { roomD with mode := 5, body := body, head := 10, trl := [([83, 117, 109], [49])] } := by
    have := eat_line4 [] { roomD with body := body, mode := 4, head := 8, trl := [([83, 117, 109], [49])] } rfl rfl rfl (by simp) (by show 0 + 1 < 200; decide) (by show 8 + 0 + 2 ≤ 1000; decide)
    exact this
  exact ((h1.append h2).append h3).append h4
/-- however what was written is divided: no flaw, and at the end it is all there -/
theorem cut_enc (s fin : Dc) (enc behind : Bs) (h : Eats s enc fin) (hf : stopD fin = true) (hb : fin.bad = 0) (p q : Bs) (hpq : p ++ q = enc ++ behind) :
    (feedD s p).2.bad = 0 ∧ ((feedD s p).2.mode = 5 → (feedD s p) = (enc.length, fin)) ∧ (stopD (feedD s p).2 = true → (feedD s p) = (enc.length, fin)) ∧ (q = [] → (feedD s p) = (enc.length, fin)) := by
  have hall : feedD s (p ++ q) = (enc.length, fin) := by
    rw [hpq, feedD_append, h]
    simp only [feedD_stop fin behind hf, Nat.add_zero]
  have hA := feedD_append p s q
  rw [hall] at hA
  have hstop : stopD (feedD s p).2 = true → feedD s p = (enc.length, fin) := by
    intro hs
    rw [feedD_stop _ q hs] at hA
    simp only [Nat.add_zero] at hA
    exact hA.symm
  refine ⟨?_, ?_, hstop, ?_⟩
  · by_cases h0 : (feedD s p).2.bad = 0
    · exact h0
    · have := hstop (by simp [stopD, h0])
      rw [this]; exact hb
  · intro hm; exact hstop (by simp [stopD, hm])
  · intro hq
    subst hq
    rw [List.append_nil] at hall
    exact hall
end Tk
end Go.Proofs.YtpcdaaijlgilkaaGreatDoor
namespace Go.Proofs.YtpcdaaijlgilkaaGreatDoor
open Go.RowKit
namespace Tk

/-- how add ends -/
def addE (s : Dc) (c : UInt8) : Ending := if addK s c = 0 then .returned (.bool false) else if addK s c = 1 then .returned (.bool true) else .panicked (flawP 400)

theorem Dec.draws {B b : Nat} {s : Dc} {vl vb vt : Value} {w : World} (h : Dec B b s vl vb vt w) (n : Nat) : Dec B b s vl vb vt (w.drewN n) := h.below ⟨rfl, rfl, rfl, Nat.le_refl _, fun _ _ => rfl⟩
theorem Turn.draws (b : Nat) (vl vb vt : Value) (w : World) (n : Nat) : Turn b vl vb vt vl vb vt w (w.drewN n) := Turn.of ⟨rfl, rfl, rfl, Nat.le_refl _, fun _ _ => rfl⟩

theorem u8_dec (c : UInt8) (n : Nat) (hn : n < 256) : ((c.toNat : Int) == (n : Int)) = decide (c = UInt8.ofNat n) := by
  cases h : ((c.toNat : Int) == (n : Int))
  · rw [decide_eq_false (u8_not c n h hn)]
  · rw [decide_eq_true (u8_is c n hn h)]
theorem byte_at (l : Bs) (x : UInt8) : (Lib.byteCells (l ++ [x]))[l.length]? = some (.int .u8 x.toNat) := by simp [Lib.byteCells]

set_option maxHeartbeats 8000000 in
set_option maxRecDepth 100000 in
theorem add_any {B b : Nat} {s : Dc} {vl vb vt : Value} (c : UInt8) {w : World} (h : Dec B b s vl vb vt w) (hz : s.line.length + 1 ≤ 1099511627776) (hL : s.L ≤ 9223372036854775807) :
    Calls Tryz.prog 114 #[ptr b, .int .u8 c.toNat] w fun e w' => e = addE s c ∧ DecTo B b (addD s c) vl vb vt w w' := by
  obtain ⟨i0, hi, hz0, hz1, hz2⟩ := info_parts byteInf
  obtain ⟨a, cap, rfl⟩ : ∃ a cap, vl = .slice a s.line.length cap := by
    rcases h.line.2 with ⟨hv, h0⟩ | ⟨g, cap, cur, hv, _⟩
    · exact ⟨none, 0, by rw [hv, h0]⟩
    · exact ⟨_, _, hv⟩
  obtain ⟨N, hN⟩ : ∃ N, N = s.line.length := ⟨_, rfl⟩
  rw [← hN] at h hz ⊢
  have HN := Lib.hid hN
  have c7 : w.cell? ⟨b, 7, none⟩ = some (.slice a N cap) := h.cell 7 _ rfl
  have H := Lib.hid h
  have e0 : ∀ r : Bool, cr s.line = r → ∀ t : Bool, decide (c = 10) = t → addE s c = if r = t then (if r then .returned (.bool true) else if s.L ≤ N + 1 then .panicked (flawP 400) else .returned (.bool false)) else .panicked (flawP 400) := by
    intro r hr t ht
    unfold addE addK
    rw [hr, ht, ← hN]
    by_cases hl : s.L ≤ N + 1 <;> cases r <;> cases t <;> simp [hl]
  have E0 := Lib.hid e0
  have hsh : (N = 0 ∧ cr s.line = false) ∨ ∃ (x : UInt8) (g : Nat), 0 < N ∧ a = some ⟨g, 0, none⟩ ∧ w.cell? ⟨g, N - 1, none⟩ = some (.int .u8 x.toNat) ∧ cr s.line = decide (x = 13) := by
    rcases List.eq_nil_or_concat s.line with e | ⟨p, x, e⟩
    · exact .inl ⟨by rw [hN, e]; rfl, by rw [e]; rfl⟩
    · right
      rw [List.concat_eq_append] at e
      rcases h.line.2 with ⟨hv, h0⟩ | ⟨g, cap', cur, hv, _⟩
      · rw [e] at h0; simp at h0
      · injection hv with e1 e2 e3
        refine ⟨x, g, by rw [hN, e]; simp, e1, ?_, by rw [e, cr_snoc]⟩
        have := h.line.cells (g := g) (by rw [e1]; rfl) p.length (.int .u8 x.toNat) (by rw [e]; exact byte_at p x)
        rw [Go.WideShapes.add_plain, Nat.zero_add] at this
        rw [show N - 1 = p.length by rw [hN, e]; simp]
        exact this
  clear h e0 hN
  have hct := u8_dec c 10 (by decide)
  rcases hsh with ⟨rfl, hr⟩ | ⟨x, g, hn, rfl, hx, hr⟩
  · have hd0 : decide ((0 : Int) < ((0 : Nat) : Int)) = false := by decide
    have hd1 : ¬ (0 : Int) < ((0 : Nat) : Int) := by decide
    cases hc10 : ((c.toNat : Int) == 10)
    · have HE := Lib.hid (E0.out _ hr _ (hct.symm.trans hc10))
      clear hr E0 hct
      unfold ptr
      go_enter Tryz.func114, Tryz.ntmps114
      go_wp2_with fail
      go_quiet (fail)
      have H1 := Lib.hid (H.out.draws nq)
      have T1 := Lib.hid (Turn.draws b (.slice a 0 cap) vb vt w nq)
      have hw0 : Below (w.drewN nq).heap.size (w.drewN nq) ((w.drewN nq).alloc (.cells #[.int .u8 c.toNat] 5)) := (Below.refl _ _).alloc (Nat.le_refl _) _
      have H0 := Lib.hid (H1.out.below hw0)
      have T0 := Lib.hid (T1.out.trans (Turn.of hw0))
      have hBs : B ≤ ((w.drewN nq).alloc (.cells #[.int .u8 c.toNat] 5)).heap.size := by have := H0.out.hB; have := H0.out.lt; omega
      have hnew : ((w.drewN nq).alloc (.cells #[.int .u8 c.toNat] 5)).cell? ⟨(w.drewN nq).heap.size, 0, none⟩ = some (.int .u8 c.toNat) := by rw [Lib.cell_of_heap (heap_alloc_last _ _)]; rfl
      have d7 := H1.out.cell 7 _ rfl
      clear c7 hw0 hd0 hd1
      generalize w.drewN nq = w1 at *
      have HO := Lib.hid (show (w1.alloc (.cells #[.int .u8 c.toNat] 5)).ownsRow B 5 1 (.slice a 0 cap) 0 (Lib.byteCells s.line) by rw [show 0 = s.line.length from HN.out]; have := H0.out.line; rw [show 0 = s.line.length from HN.out] at this; exact this)
      go_wp2_with (at_builtin; refine append_stay (by rfl) _ _ 65 rfl B 5 i0 (.int .u8 0) 1 1 Tryz.underlying65 hi hz0 hz1 hz2 rfl (by decide) _ _ _ rfl HO.out ⟨w1.heap.size, 0, none⟩ 1 1 [.int .u8 c.toNat] rfl rfl ?c1 ?c2 ?c3 ?c4 hBs ?_)
      case c1 =>
        intro j u hj
        match j, hj with
        | 0, hj => simp at hj; subst hj; exact hnew
      case c2 => intro u hu; simp at hu; subst hu; rfl
      case c3 => unfold maxLen; omega
      case c4 => omega
      intro v' w2 ho hg hst
      obtain ⟨g2, cap2, rfl⟩ : ∃ g cap, v' = .slice (some ⟨g, 0, none⟩) (0 + 1) cap := by
        rcases ho.2 with ⟨_, h0⟩ | ⟨g, cap, cur, hv, _⟩
        · omega
        · exact ⟨g, cap, hv⟩
      obtain ⟨hd, ht⟩ := H0.out.putLine c (show w2.ownsRow B 5 1 (.slice (some ⟨g2, 0, none⟩) (0 + 1) cap2) (s.line.length + 1) (Lib.byteCells s.line ++ [.int .u8 c.toNat]) by rw [← show 0 = s.line.length from HN.out]; exact ho) hg hst
      have hk2 : w2.heap[b]? = some (.cells (dcells b s (.slice a 0 cap) vb vt) 131 (0, 0)) := (hg.block b H0.out.lt (fun e => own_ne H0.out.line H0.out.blk (by decide) e.symm)).trans H0.out.blk
      have k7 : w2.cell? ⟨b, 7, none⟩ = some (.slice a 0 cap) := by rw [Lib.cell_of_heap hk2]; rfl
      have f7 : w2.frozen? ⟨b, 7, none⟩ = false := Lib.frozen_of_heap hk2 7
      have z7 : (w2.setCell ⟨b, 7, none⟩ (.slice (some ⟨g2, 0, none⟩) (0 + 1) cap2)).cell? ⟨b, 7, none⟩ = some (.slice (some ⟨g2, 0, none⟩) (0 + 1) cap2) := hd.cell 7 _ rfl
      have z1 : (w2.setCell ⟨b, 7, none⟩ (.slice (some ⟨g2, 0, none⟩) (0 + 1) cap2)).cell? ⟨b, 1, none⟩ = some (.int .i64 s.L) := hd.cell 1 _ rfl
      have k1 : w2.cell? ⟨b, 1, none⟩ = some (.int .i64 s.L) := by rw [Lib.cell_of_heap hk2]; rfl
      have HR := Lib.hid (show DecTo B b (addD s c) (.slice a 0 cap) vb vt w _ from ⟨_, _, _, hd, T0.out.trans ht⟩)
      clear hd ht ho hg hst hk2 hnew d7 T1 T0 H0 H1
      have hnr : decide ((!false) = true) = true := rfl
      have EL : addE s c = if s.L ≤ 0 + 1 then Ending.panicked (flawP 400) else Ending.returned (.bool false) := HE.out
      by_cases hl : s.L ≤ 0 + 1
      · rw [if_pos hl] at EL
        have HE2 := Lib.hid EL
        have hl2 : (s.L : Int) ≤ (0 : Nat) + 1 := by omega
        clear EL hl
        go_wp2_with fail
        go_quiet (fail)
        go_wp2_with fail
        obtain ⟨v1, v2, v3, hd, ht⟩ := HR.out
        exact ⟨rfl, by rw [HE2.out]; rfl, v1, v2, v3, hd.draws _, ht.trans (Turn.draws _ _ _ _ _ _)⟩
      · rw [if_neg hl] at EL
        have HE2 := Lib.hid EL
        have hl2 : ¬ (s.L : Int) ≤ (0 : Nat) + 1 := by omega
        clear EL hl
        go_wp2_with fail
        go_quiet (fail)
        go_wp2_with fail
        go_ret
        obtain ⟨v1, v2, v3, hd, ht⟩ := HR.out
        exact ⟨by rw [HE2.out]; rfl, v1, v2, v3, hd.draws _, ht.trans (Turn.draws _ _ _ _ _ _)⟩
    · have HE := Lib.hid (E0.out _ hr _ (hct.symm.trans hc10))
      clear hr E0 hct
      unfold ptr
      go_enter Tryz.func114, Tryz.ntmps114
      go_wp2_with fail
      go_quiet (fail)
      have H1 := Lib.hid (H.out.draws nq)
      have T1 := Lib.hid (Turn.draws b (.slice a 0 cap) vb vt w nq)
      have hw0 : Below (w.drewN nq).heap.size (w.drewN nq) ((w.drewN nq).alloc (.cells #[.int .u8 c.toNat] 5)) := (Below.refl _ _).alloc (Nat.le_refl _) _
      have H0 := Lib.hid (H1.out.below hw0)
      have T0 := Lib.hid (T1.out.trans (Turn.of hw0))
      have hBs : B ≤ ((w.drewN nq).alloc (.cells #[.int .u8 c.toNat] 5)).heap.size := by have := H0.out.hB; have := H0.out.lt; omega
      have hnew : ((w.drewN nq).alloc (.cells #[.int .u8 c.toNat] 5)).cell? ⟨(w.drewN nq).heap.size, 0, none⟩ = some (.int .u8 c.toNat) := by rw [Lib.cell_of_heap (heap_alloc_last _ _)]; rfl
      have d7 := H1.out.cell 7 _ rfl
      clear c7 hw0 hd0 hd1
      generalize w.drewN nq = w1 at *
      have HO := Lib.hid (show (w1.alloc (.cells #[.int .u8 c.toNat] 5)).ownsRow B 5 1 (.slice a 0 cap) 0 (Lib.byteCells s.line) by rw [show 0 = s.line.length from HN.out]; have := H0.out.line; rw [show 0 = s.line.length from HN.out] at this; exact this)
      go_wp2_with (at_builtin; refine append_stay (by rfl) _ _ 65 rfl B 5 i0 (.int .u8 0) 1 1 Tryz.underlying65 hi hz0 hz1 hz2 rfl (by decide) _ _ _ rfl HO.out ⟨w1.heap.size, 0, none⟩ 1 1 [.int .u8 c.toNat] rfl rfl ?c1 ?c2 ?c3 ?c4 hBs ?_)
      case c1 =>
        intro j u hj
        match j, hj with
        | 0, hj => simp at hj; subst hj; exact hnew
      case c2 => intro u hu; simp at hu; subst hu; rfl
      case c3 => unfold maxLen; omega
      case c4 => omega
      intro v' w2 ho hg hst
      obtain ⟨g2, cap2, rfl⟩ : ∃ g cap, v' = .slice (some ⟨g, 0, none⟩) (0 + 1) cap := by
        rcases ho.2 with ⟨_, h0⟩ | ⟨g, cap, cur, hv, _⟩
        · omega
        · exact ⟨g, cap, hv⟩
      obtain ⟨hd, ht⟩ := H0.out.putLine c (show w2.ownsRow B 5 1 (.slice (some ⟨g2, 0, none⟩) (0 + 1) cap2) (s.line.length + 1) (Lib.byteCells s.line ++ [.int .u8 c.toNat]) by rw [← show 0 = s.line.length from HN.out]; exact ho) hg hst
      have hk2 : w2.heap[b]? = some (.cells (dcells b s (.slice a 0 cap) vb vt) 131 (0, 0)) := (hg.block b H0.out.lt (fun e => own_ne H0.out.line H0.out.blk (by decide) e.symm)).trans H0.out.blk
      have k7 : w2.cell? ⟨b, 7, none⟩ = some (.slice a 0 cap) := by rw [Lib.cell_of_heap hk2]; rfl
      have f7 : w2.frozen? ⟨b, 7, none⟩ = false := Lib.frozen_of_heap hk2 7
      have z7 : (w2.setCell ⟨b, 7, none⟩ (.slice (some ⟨g2, 0, none⟩) (0 + 1) cap2)).cell? ⟨b, 7, none⟩ = some (.slice (some ⟨g2, 0, none⟩) (0 + 1) cap2) := hd.cell 7 _ rfl
      have z1 : (w2.setCell ⟨b, 7, none⟩ (.slice (some ⟨g2, 0, none⟩) (0 + 1) cap2)).cell? ⟨b, 1, none⟩ = some (.int .i64 s.L) := hd.cell 1 _ rfl
      have k1 : w2.cell? ⟨b, 1, none⟩ = some (.int .i64 s.L) := by rw [Lib.cell_of_heap hk2]; rfl
      have HR := Lib.hid (show DecTo B b (addD s c) (.slice a 0 cap) vb vt w _ from ⟨_, _, _, hd, T0.out.trans ht⟩)
      clear hd ht ho hg hst hk2 hnew d7 T1 T0 H0 H1
      go_wp2_with fail
      exact ⟨rfl, by rw [HE.out]; rfl, HR.out⟩
  · obtain ⟨n, rfl⟩ : ∃ n, N = n + 1 := ⟨N - 1, by omega⟩
    have hx : w.cell? ⟨g, n, none⟩ = some (.int .u8 x.toNat) := hx
    have hd0 : decide ((0 : Int) < (n : Int) + 1) = true := decide_eq_true (by omega)
    have hd1 : (0 : Int) < (n : Int) + 1 := by omega
    have hb1 : (0 : Int) ≤ (n : Int) ∧ (n : Int) < (n : Int) + 1 := by omega
    have hb2 : (0 : Int) ≤ (n : Int) := by omega
    have hxt := u8_dec x 13 (by decide)
    cases hc10 : ((c.toNat : Int) == 10)
    · cases h13 : ((x.toNat : Int) == 13)
      · have HE := Lib.hid (E0.out _ (hr.trans (hxt.symm.trans h13)) _ (hct.symm.trans hc10))
        clear hr E0 hct hxt hn
        unfold ptr
        go_enter Tryz.func114, Tryz.ntmps114
        go_wp2_with fail
        go_quiet (fail)
        have H1 := Lib.hid (H.out.draws nq)
        have T1 := Lib.hid (Turn.draws b (.slice (some ⟨g, 0, none⟩) (n + 1) cap) vb vt w nq)
        have hw0 : Below (w.drewN nq).heap.size (w.drewN nq) ((w.drewN nq).alloc (.cells #[.int .u8 c.toNat] 5)) := (Below.refl _ _).alloc (Nat.le_refl _) _
        have H0 := Lib.hid (H1.out.below hw0)
        have T0 := Lib.hid (T1.out.trans (Turn.of hw0))
        have hBs : B ≤ ((w.drewN nq).alloc (.cells #[.int .u8 c.toNat] 5)).heap.size := by have := H0.out.hB; have := H0.out.lt; omega
        have hnew : ((w.drewN nq).alloc (.cells #[.int .u8 c.toNat] 5)).cell? ⟨(w.drewN nq).heap.size, 0, none⟩ = some (.int .u8 c.toNat) := by rw [Lib.cell_of_heap (heap_alloc_last _ _)]; rfl
        have d7 := H1.out.cell 7 _ rfl
        clear c7 hw0 hd0 hd1 hb1 hb2 hx
        generalize w.drewN nq = w1 at *
        have HO := Lib.hid (show (w1.alloc (.cells #[.int .u8 c.toNat] 5)).ownsRow B 5 1 (.slice (some ⟨g, 0, none⟩) (n + 1) cap) (n + 1) (Lib.byteCells s.line) by rw [show (n + 1) = s.line.length from HN.out]; have := H0.out.line; rw [show (n + 1) = s.line.length from HN.out] at this; exact this)
        go_wp2_with (at_builtin; refine append_stay (by rfl) _ _ 65 rfl B 5 i0 (.int .u8 0) 1 1 Tryz.underlying65 hi hz0 hz1 hz2 rfl (by decide) _ _ _ rfl HO.out ⟨w1.heap.size, 0, none⟩ 1 1 [.int .u8 c.toNat] rfl rfl ?c1 ?c2 ?c3 ?c4 hBs ?_)
        case c1 =>
          intro j u hj
          match j, hj with
          | 0, hj => simp at hj; subst hj; exact hnew
        case c2 => intro u hu; simp at hu; subst hu; rfl
        case c3 => unfold maxLen; omega
        case c4 => omega
        intro v' w2 ho hg hst
        obtain ⟨g2, cap2, rfl⟩ : ∃ g cap, v' = .slice (some ⟨g, 0, none⟩) ((n + 1) + 1) cap := by
          rcases ho.2 with ⟨_, h0⟩ | ⟨g, cap, cur, hv, _⟩
          · omega
          · exact ⟨g, cap, hv⟩
        obtain ⟨hd, ht⟩ := H0.out.putLine c (show w2.ownsRow B 5 1 (.slice (some ⟨g2, 0, none⟩) ((n + 1) + 1) cap2) (s.line.length + 1) (Lib.byteCells s.line ++ [.int .u8 c.toNat]) by rw [← show (n + 1) = s.line.length from HN.out]; exact ho) hg hst
        have hk2 : w2.heap[b]? = some (.cells (dcells b s (.slice (some ⟨g, 0, none⟩) (n + 1) cap) vb vt) 131 (0, 0)) := (hg.block b H0.out.lt (fun e => own_ne H0.out.line H0.out.blk (by decide) e.symm)).trans H0.out.blk
        have k7 : w2.cell? ⟨b, 7, none⟩ = some (.slice (some ⟨g, 0, none⟩) (n + 1) cap) := by rw [Lib.cell_of_heap hk2]; rfl
        have f7 : w2.frozen? ⟨b, 7, none⟩ = false := Lib.frozen_of_heap hk2 7
        have z7 : (w2.setCell ⟨b, 7, none⟩ (.slice (some ⟨g2, 0, none⟩) ((n + 1) + 1) cap2)).cell? ⟨b, 7, none⟩ = some (.slice (some ⟨g2, 0, none⟩) ((n + 1) + 1) cap2) := hd.cell 7 _ rfl
        have z1 : (w2.setCell ⟨b, 7, none⟩ (.slice (some ⟨g2, 0, none⟩) ((n + 1) + 1) cap2)).cell? ⟨b, 1, none⟩ = some (.int .i64 s.L) := hd.cell 1 _ rfl
        have k1 : w2.cell? ⟨b, 1, none⟩ = some (.int .i64 s.L) := by rw [Lib.cell_of_heap hk2]; rfl
        have HR := Lib.hid (show DecTo B b (addD s c) (.slice (some ⟨g, 0, none⟩) (n + 1) cap) vb vt w _ from ⟨_, _, _, hd, T0.out.trans ht⟩)
        clear hd ht ho hg hst hk2 hnew d7 T1 T0 H0 H1
        have hnr : decide ((!false) = true) = true := rfl
        have EL : addE s c = if s.L ≤ (n + 1) + 1 then Ending.panicked (flawP 400) else Ending.returned (.bool false) := HE.out
        by_cases hl : s.L ≤ (n + 1) + 1
        · rw [if_pos hl] at EL
          have HE2 := Lib.hid EL
          have hl2 : (s.L : Int) ≤ ((n + 1) : Nat) + 1 := by omega
          clear EL hl
          go_wp2_with fail
          go_quiet (fail)
          go_wp2_with fail
          obtain ⟨v1, v2, v3, hd, ht⟩ := HR.out
          exact ⟨rfl, by rw [HE2.out]; rfl, v1, v2, v3, hd.draws _, ht.trans (Turn.draws _ _ _ _ _ _)⟩
        · rw [if_neg hl] at EL
          have HE2 := Lib.hid EL
          have hl2 : ¬ (s.L : Int) ≤ ((n + 1) : Nat) + 1 := by omega
          clear EL hl
          go_wp2_with fail
          go_quiet (fail)
          go_wp2_with fail
          go_ret
          obtain ⟨v1, v2, v3, hd, ht⟩ := HR.out
          exact ⟨by rw [HE2.out]; rfl, v1, v2, v3, hd.draws _, ht.trans (Turn.draws _ _ _ _ _ _)⟩
      · have HE := Lib.hid (E0.out _ (hr.trans (hxt.symm.trans h13)) _ (hct.symm.trans hc10))
        clear hr E0 hct hxt hn
        unfold ptr
        go_enter Tryz.func114, Tryz.ntmps114
        go_wp2_with fail
        go_quiet (fail)
        have H1 := Lib.hid (H.out.draws nq)
        have T1 := Lib.hid (Turn.draws b (.slice (some ⟨g, 0, none⟩) (n + 1) cap) vb vt w nq)
        have hw0 : Below (w.drewN nq).heap.size (w.drewN nq) ((w.drewN nq).alloc (.cells #[.int .u8 c.toNat] 5)) := (Below.refl _ _).alloc (Nat.le_refl _) _
        have H0 := Lib.hid (H1.out.below hw0)
        have T0 := Lib.hid (T1.out.trans (Turn.of hw0))
        have hBs : B ≤ ((w.drewN nq).alloc (.cells #[.int .u8 c.toNat] 5)).heap.size := by have := H0.out.hB; have := H0.out.lt; omega
        have hnew : ((w.drewN nq).alloc (.cells #[.int .u8 c.toNat] 5)).cell? ⟨(w.drewN nq).heap.size, 0, none⟩ = some (.int .u8 c.toNat) := by rw [Lib.cell_of_heap (heap_alloc_last _ _)]; rfl
        have d7 := H1.out.cell 7 _ rfl
        clear c7 hw0 hd0 hd1 hb1 hb2 hx
        generalize w.drewN nq = w1 at *
        have HO := Lib.hid (show (w1.alloc (.cells #[.int .u8 c.toNat] 5)).ownsRow B 5 1 (.slice (some ⟨g, 0, none⟩) (n + 1) cap) (n + 1) (Lib.byteCells s.line) by rw [show (n + 1) = s.line.length from HN.out]; have := H0.out.line; rw [show (n + 1) = s.line.length from HN.out] at this; exact this)
        go_wp2_with (at_builtin; refine append_stay (by rfl) _ _ 65 rfl B 5 i0 (.int .u8 0) 1 1 Tryz.underlying65 hi hz0 hz1 hz2 rfl (by decide) _ _ _ rfl HO.out ⟨w1.heap.size, 0, none⟩ 1 1 [.int .u8 c.toNat] rfl rfl ?c1 ?c2 ?c3 ?c4 hBs ?_)
        case c1 =>
          intro j u hj
          match j, hj with
          | 0, hj => simp at hj; subst hj; exact hnew
        case c2 => intro u hu; simp at hu; subst hu; rfl
        case c3 => unfold maxLen; omega
        case c4 => omega
        intro v' w2 ho hg hst
        obtain ⟨g2, cap2, rfl⟩ : ∃ g cap, v' = .slice (some ⟨g, 0, none⟩) ((n + 1) + 1) cap := by
          rcases ho.2 with ⟨_, h0⟩ | ⟨g, cap, cur, hv, _⟩
          · omega
          · exact ⟨g, cap, hv⟩
        obtain ⟨hd, ht⟩ := H0.out.putLine c (show w2.ownsRow B 5 1 (.slice (some ⟨g2, 0, none⟩) ((n + 1) + 1) cap2) (s.line.length + 1) (Lib.byteCells s.line ++ [.int .u8 c.toNat]) by rw [← show (n + 1) = s.line.length from HN.out]; exact ho) hg hst
        have hk2 : w2.heap[b]? = some (.cells (dcells b s (.slice (some ⟨g, 0, none⟩) (n + 1) cap) vb vt) 131 (0, 0)) := (hg.block b H0.out.lt (fun e => own_ne H0.out.line H0.out.blk (by decide) e.symm)).trans H0.out.blk
        have k7 : w2.cell? ⟨b, 7, none⟩ = some (.slice (some ⟨g, 0, none⟩) (n + 1) cap) := by rw [Lib.cell_of_heap hk2]; rfl
        have f7 : w2.frozen? ⟨b, 7, none⟩ = false := Lib.frozen_of_heap hk2 7
        have z7 : (w2.setCell ⟨b, 7, none⟩ (.slice (some ⟨g2, 0, none⟩) ((n + 1) + 1) cap2)).cell? ⟨b, 7, none⟩ = some (.slice (some ⟨g2, 0, none⟩) ((n + 1) + 1) cap2) := hd.cell 7 _ rfl
        have z1 : (w2.setCell ⟨b, 7, none⟩ (.slice (some ⟨g2, 0, none⟩) ((n + 1) + 1) cap2)).cell? ⟨b, 1, none⟩ = some (.int .i64 s.L) := hd.cell 1 _ rfl
        have k1 : w2.cell? ⟨b, 1, none⟩ = some (.int .i64 s.L) := by rw [Lib.cell_of_heap hk2]; rfl
        have HR := Lib.hid (show DecTo B b (addD s c) (.slice (some ⟨g, 0, none⟩) (n + 1) cap) vb vt w _ from ⟨_, _, _, hd, T0.out.trans ht⟩)
        clear hd ht ho hg hst hk2 hnew d7 T1 T0 H0 H1
        go_wp2_with fail
        exact ⟨rfl, by rw [HE.out]; rfl, HR.out⟩
    · cases h13 : ((x.toNat : Int) == 13)
      · have HE := Lib.hid (E0.out _ (hr.trans (hxt.symm.trans h13)) _ (hct.symm.trans hc10))
        clear hr E0 hct hxt hn
        unfold ptr
        go_enter Tryz.func114, Tryz.ntmps114
        go_wp2_with fail
        go_quiet (fail)
        have H1 := Lib.hid (H.out.draws nq)
        have T1 := Lib.hid (Turn.draws b (.slice (some ⟨g, 0, none⟩) (n + 1) cap) vb vt w nq)
        have hw0 : Below (w.drewN nq).heap.size (w.drewN nq) ((w.drewN nq).alloc (.cells #[.int .u8 c.toNat] 5)) := (Below.refl _ _).alloc (Nat.le_refl _) _
        have H0 := Lib.hid (H1.out.below hw0)
        have T0 := Lib.hid (T1.out.trans (Turn.of hw0))
        have hBs : B ≤ ((w.drewN nq).alloc (.cells #[.int .u8 c.toNat] 5)).heap.size := by have := H0.out.hB; have := H0.out.lt; omega
        have hnew : ((w.drewN nq).alloc (.cells #[.int .u8 c.toNat] 5)).cell? ⟨(w.drewN nq).heap.size, 0, none⟩ = some (.int .u8 c.toNat) := by rw [Lib.cell_of_heap (heap_alloc_last _ _)]; rfl
        have d7 := H1.out.cell 7 _ rfl
        clear c7 hw0 hd0 hd1 hb1 hb2 hx
        generalize w.drewN nq = w1 at *
        have HO := Lib.hid (show (w1.alloc (.cells #[.int .u8 c.toNat] 5)).ownsRow B 5 1 (.slice (some ⟨g, 0, none⟩) (n + 1) cap) (n + 1) (Lib.byteCells s.line) by rw [show (n + 1) = s.line.length from HN.out]; have := H0.out.line; rw [show (n + 1) = s.line.length from HN.out] at this; exact this)
        go_wp2_with (at_builtin; refine append_stay (by rfl) _ _ 65 rfl B 5 i0 (.int .u8 0) 1 1 Tryz.underlying65 hi hz0 hz1 hz2 rfl (by decide) _ _ _ rfl HO.out ⟨w1.heap.size, 0, none⟩ 1 1 [.int .u8 c.toNat] rfl rfl ?c1 ?c2 ?c3 ?c4 hBs ?_)
        case c1 =>
          intro j u hj
          match j, hj with
          | 0, hj => simp at hj; subst hj; exact hnew
        case c2 => intro u hu; simp at hu; subst hu; rfl
        case c3 => unfold maxLen; omega
        case c4 => omega
        intro v' w2 ho hg hst
        obtain ⟨g2, cap2, rfl⟩ : ∃ g cap, v' = .slice (some ⟨g, 0, none⟩) ((n + 1) + 1) cap := by
          rcases ho.2 with ⟨_, h0⟩ | ⟨g, cap, cur, hv, _⟩
          · omega
          · exact ⟨g, cap, hv⟩
        obtain ⟨hd, ht⟩ := H0.out.putLine c (show w2.ownsRow B 5 1 (.slice (some ⟨g2, 0, none⟩) ((n + 1) + 1) cap2) (s.line.length + 1) (Lib.byteCells s.line ++ [.int .u8 c.toNat]) by rw [← show (n + 1) = s.line.length from HN.out]; exact ho) hg hst
        have hk2 : w2.heap[b]? = some (.cells (dcells b s (.slice (some ⟨g, 0, none⟩) (n + 1) cap) vb vt) 131 (0, 0)) := (hg.block b H0.out.lt (fun e => own_ne H0.out.line H0.out.blk (by decide) e.symm)).trans H0.out.blk
        have k7 : w2.cell? ⟨b, 7, none⟩ = some (.slice (some ⟨g, 0, none⟩) (n + 1) cap) := by rw [Lib.cell_of_heap hk2]; rfl
        have f7 : w2.frozen? ⟨b, 7, none⟩ = false := Lib.frozen_of_heap hk2 7
        have z7 : (w2.setCell ⟨b, 7, none⟩ (.slice (some ⟨g2, 0, none⟩) ((n + 1) + 1) cap2)).cell? ⟨b, 7, none⟩ = some (.slice (some ⟨g2, 0, none⟩) ((n + 1) + 1) cap2) := hd.cell 7 _ rfl
        have z1 : (w2.setCell ⟨b, 7, none⟩ (.slice (some ⟨g2, 0, none⟩) ((n + 1) + 1) cap2)).cell? ⟨b, 1, none⟩ = some (.int .i64 s.L) := hd.cell 1 _ rfl
        have k1 : w2.cell? ⟨b, 1, none⟩ = some (.int .i64 s.L) := by rw [Lib.cell_of_heap hk2]; rfl
        have HR := Lib.hid (show DecTo B b (addD s c) (.slice (some ⟨g, 0, none⟩) (n + 1) cap) vb vt w _ from ⟨_, _, _, hd, T0.out.trans ht⟩)
        clear hd ht ho hg hst hk2 hnew d7 T1 T0 H0 H1
        go_wp2_with fail
        exact ⟨rfl, by rw [HE.out]; rfl, HR.out⟩
      · have HE := Lib.hid (E0.out _ (hr.trans (hxt.symm.trans h13)) _ (hct.symm.trans hc10))
        clear hr E0 hct hxt hn
        unfold ptr
        go_enter Tryz.func114, Tryz.ntmps114
        go_wp2_with fail
        go_quiet (fail)
        have H1 := Lib.hid (H.out.draws nq)
        have T1 := Lib.hid (Turn.draws b (.slice (some ⟨g, 0, none⟩) (n + 1) cap) vb vt w nq)
        have hw0 : Below (w.drewN nq).heap.size (w.drewN nq) ((w.drewN nq).alloc (.cells #[.int .u8 c.toNat] 5)) := (Below.refl _ _).alloc (Nat.le_refl _) _
        have H0 := Lib.hid (H1.out.below hw0)
        have T0 := Lib.hid (T1.out.trans (Turn.of hw0))
        have hBs : B ≤ ((w.drewN nq).alloc (.cells #[.int .u8 c.toNat] 5)).heap.size := by have := H0.out.hB; have := H0.out.lt; omega
        have hnew : ((w.drewN nq).alloc (.cells #[.int .u8 c.toNat] 5)).cell? ⟨(w.drewN nq).heap.size, 0, none⟩ = some (.int .u8 c.toNat) := by rw [Lib.cell_of_heap (heap_alloc_last _ _)]; rfl
        have d7 := H1.out.cell 7 _ rfl
        clear c7 hw0 hd0 hd1 hb1 hb2 hx
        generalize w.drewN nq = w1 at *
        have HO := Lib.hid (show (w1.alloc (.cells #[.int .u8 c.toNat] 5)).ownsRow B 5 1 (.slice (some ⟨g, 0, none⟩) (n + 1) cap) (n + 1) (Lib.byteCells s.line) by rw [show (n + 1) = s.line.length from HN.out]; have := H0.out.line; rw [show (n + 1) = s.line.length from HN.out] at this; exact this)
        go_wp2_with (at_builtin; refine append_stay (by rfl) _ _ 65 rfl B 5 i0 (.int .u8 0) 1 1 Tryz.underlying65 hi hz0 hz1 hz2 rfl (by decide) _ _ _ rfl HO.out ⟨w1.heap.size, 0, none⟩ 1 1 [.int .u8 c.toNat] rfl rfl ?c1 ?c2 ?c3 ?c4 hBs ?_)
        case c1 =>
          intro j u hj
          match j, hj with
          | 0, hj => simp at hj; subst hj; exact hnew
        case c2 => intro u hu; simp at hu; subst hu; rfl
        case c3 => unfold maxLen; omega
        case c4 => omega
        intro v' w2 ho hg hst
        obtain ⟨g2, cap2, rfl⟩ : ∃ g cap, v' = .slice (some ⟨g, 0, none⟩) ((n + 1) + 1) cap := by
          rcases ho.2 with ⟨_, h0⟩ | ⟨g, cap, cur, hv, _⟩
          · omega
          · exact ⟨g, cap, hv⟩
        obtain ⟨hd, ht⟩ := H0.out.putLine c (show w2.ownsRow B 5 1 (.slice (some ⟨g2, 0, none⟩) ((n + 1) + 1) cap2) (s.line.length + 1) (Lib.byteCells s.line ++ [.int .u8 c.toNat]) by rw [← show (n + 1) = s.line.length from HN.out]; exact ho) hg hst
        have hk2 : w2.heap[b]? = some (.cells (dcells b s (.slice (some ⟨g, 0, none⟩) (n + 1) cap) vb vt) 131 (0, 0)) := (hg.block b H0.out.lt (fun e => own_ne H0.out.line H0.out.blk (by decide) e.symm)).trans H0.out.blk
        have k7 : w2.cell? ⟨b, 7, none⟩ = some (.slice (some ⟨g, 0, none⟩) (n + 1) cap) := by rw [Lib.cell_of_heap hk2]; rfl
        have f7 : w2.frozen? ⟨b, 7, none⟩ = false := Lib.frozen_of_heap hk2 7
        have z7 : (w2.setCell ⟨b, 7, none⟩ (.slice (some ⟨g2, 0, none⟩) ((n + 1) + 1) cap2)).cell? ⟨b, 7, none⟩ = some (.slice (some ⟨g2, 0, none⟩) ((n + 1) + 1) cap2) := hd.cell 7 _ rfl
        have z1 : (w2.setCell ⟨b, 7, none⟩ (.slice (some ⟨g2, 0, none⟩) ((n + 1) + 1) cap2)).cell? ⟨b, 1, none⟩ = some (.int .i64 s.L) := hd.cell 1 _ rfl
        have k1 : w2.cell? ⟨b, 1, none⟩ = some (.int .i64 s.L) := by rw [Lib.cell_of_heap hk2]; rfl
        have HR := Lib.hid (show DecTo B b (addD s c) (.slice (some ⟨g, 0, none⟩) (n + 1) cap) vb vt w _ from ⟨_, _, _, hd, T0.out.trans ht⟩)
        clear hd ht ho hg hst hk2 hnew d7 T1 T0 H0 H1
        have hnr : decide ((!true) = true) = false := rfl
        go_wp2_with fail
        go_quiet (fail)
        go_wp2_with fail
        go_ret
        obtain ⟨v1, v2, v3, hd, ht⟩ := HR.out
        exact ⟨by rw [HE.out]; rfl, v1, v2, v3, hd.draws _, ht.trans (Turn.draws _ _ _ _ _ _)⟩
end Tk
end Go.Proofs.YtpcdaaijlgilkaaGreatDoor
namespace Go.Proofs.YtpcdaaijlgilkaaGreatDoor
open Go.RowKit
namespace Tk

theorem cells_str_at {w : World} {B n : Nat} {v : Value} {l : Bs} {g c : Nat} (h : w.ownsRow B 5 1 v n (Lib.byteCells l)) (hv : v = .slice (some ⟨g, 0, none⟩) n c) (j : Nat) (hj : j < l.length) : w.cell? ((⟨g, 0, none⟩ : Addr).add j) = some (.int .u8 ((l[j]).toNat : Int)) := by
  refine h.cells (g := g) (by rw [hv]; rfl) j _ ?_
  simp [Lib.byteCells, hj]

set_option maxHeartbeats 2000000 in
set_option maxRecDepth 100000 in
theorem text_any {B b : Nat} {s : Dc} {vl vb vt : Value} {w : World} (h : Dec B b s vl vb vt w) (p : Bs) (x y : UInt8) (hl : s.line = p ++ [x, y]) (hz : s.line.length ≤ 1099511627776) :
    Calls Tryz.prog 116 #[ptr b] w fun e w' => e = .returned (.string (mkS p)) ∧ DecTo B b { s with line := [] } vl vb vt w w' := by
  have hlen : s.line.length = p.length + 2 := by rw [hl]; simp
  obtain ⟨g, cap, rfl⟩ : ∃ g cap, vl = .slice (some ⟨g, 0, none⟩) s.line.length cap := by
    rcases h.line.2 with ⟨hv, h0⟩ | ⟨g, cap, cur, hv, _⟩
    · omega
    · exact ⟨_, _, hv⟩
  have hcl := cells_str_at h.line rfl
  have hback := fun c : Nat => run_convert_bytes_back (P := Tryz.prog) w.drew 65 9 5 ⟨g, 0, none⟩ c p Tryz.underlying65 Tryz.underlying5 Tryz.underlying9 (fun j hj => by
    have := hcl j (by omega)
    refine this.trans ?_
    congr 3
    simp [hl, List.getElem_append_left hj])
  have hcap : p.length + 2 ≤ cap := by
    rcases h.line.2 with ⟨hv, h0⟩ | ⟨g', cap', cur, hv, _, _, hc, _⟩
    · omega
    · injection hv with _ _ e3; omega
  obtain ⟨hd, ht⟩ := (show Dec B b s _ vb vt w.drew from h.draws 1).cutLine ⟨g, 0, none⟩ cap rfl
  rw [hlen] at h
  have c7 : w.cell? ⟨b, 7, none⟩ = some (.slice (some ⟨g, 0, none⟩) (p.length + 2) cap) := h.cell 7 _ (by show some (Value.slice _ _ _) = _; rfl)
  have f7 := h.frz 7
  have HR := Lib.hid (show DecTo B b { s with line := [] } (.slice (some ⟨g, 0, none⟩) s.line.length cap) vb vt w _ from ⟨_, _, _, hd, (show Turn b _ vb vt _ vb vt w w.drew from Turn.draws b _ vb vt w 1).trans ht⟩)
  clear hd ht h hcl hl
  have hb1 : (0 : Int) ≤ (p.length : Int) := by omega
  generalize hk : p.length = k at *
  have hb2 : (k : Int) ≤ (cap : Int) := by omega
  have hb3 : ¬ (cap : Int) < (k : Int) := by omega
  have hb4 : (0 : Int) ≤ (k : Int) ∧ (k : Int) ≤ (cap : Int) := by omega
  have hb5 : ((k : Int)).toNat = k := by omega
  unfold ptr
  go_enter Tryz.func116, Tryz.ntmps116
  go_wp2_with fail
  go_region
  go_wp2_with fail
  go_ret
  exact ⟨rfl, HR.out⟩
end Tk
end Go.Proofs.YtpcdaaijlgilkaaGreatDoor
namespace Go.Proofs.YtpcdaaijlgilkaaGreatDoor
open Go.RowKit
namespace Tk

theorem low_cases : ∀ n, n < 256 → (48 ≤ n ∧ n ≤ 57) ∨ (¬ (48 ≤ n ∧ n ≤ 57) ∧ ((97 ≤ n ∧ n ≤ 102 ∧ n ||| 32 = n) ∨ (¬ (97 ≤ n ∧ n ≤ 102) ∧ 65 ≤ n ∧ n ≤ 70 ∧ n ||| 32 = n + 32) ∨
    (¬ (97 ≤ n ∧ n ≤ 102) ∧ ¬ (65 ≤ n ∧ n ≤ 70) ∧ ((103 ≤ n ||| 32 ∧ n ||| 32 ≤ 122) ∨ n ||| 32 < 97 ∨ 122 < n ||| 32)))) := by decide +kernel
theorem bits_low : ∀ n : Nat, n < 256 → bits .or .u8 (n : Int) 32 = ((n ||| 32 : Nat) : Int) := by decide +kernel
theorem low_lt : ∀ n : Nat, n < 256 → n ||| 32 < 256 := by decide +kernel

def pu16 (l : Bs) : Value := match hexN l with
  | some n => .tuple #[.int .u64 n, .nilIface]
  | none => .tuple #[.int .u64 0, .iface 183 (.int .i64 2)]

set_option maxHeartbeats 4000000 in
set_option maxRecDepth 100000 in
theorem pu16_any (t : ByteArray) (w : World) (hz : t.size ≤ 16) :
    Calls Tryz.prog 153 #[.string t, .int .i64 16, .int .i64 64] w fun e w' => e = .returned (pu16 (bs t)) ∧ Below w.heap.size w w' := by
  by_cases h0 : t.size = 0
  · have hb : bs t = [] := List.eq_nil_of_length_eq_zero (by rw [length_bs]; exact h0)
    have he : t.toList.isEmpty = true := empty_of t h0
    have HP := Lib.hid (show pu16 (bs t) = .tuple #[.int .u64 0, .iface 183 (.int .i64 2)] by rw [hb]; rfl)
    clear hb h0
    go_enter Tryz.func153, Tryz.ntmps153
    go_wp2
    go_ret2
    exact ⟨by rw [HP.out]; rfl, Below.refl _ _⟩
  · have he : t.toList.isEmpty = false := not_empty_of t (by omega)
    have hN : hexN (bs t) = hexGo 0 (bs t) := by
      unfold hexN
      rw [if_neg (fun e => h0 (by rw [← length_bs, e]; rfl))]
    have hcv := Lib.run_convert_string_bytes (P := Tryz.prog) w 9 65 5 t (u := .string) Tryz.underlying9 Tryz.underlying65 Tryz.underlying5
    have hB : ∀ j, j < t.size → (Lib.bytesWorld w 5 t).cell? ⟨w.heap.size, j, none⟩ = some (.int .u8 (t.data.toList.getD j 0).toNat) := fun j hj => Lib.bytesWorld_cell w 5 t j hj
    have HB := Lib.hid (Lib.bytesWorld_below w 5 t)
    obtain ⟨W1, hW1⟩ : ∃ W1, W1 = Lib.bytesWorld w 5 t := ⟨_, rfl⟩
    rw [← hW1] at hcv hB HB
    clear hW1
    have HN := Lib.hid hN
    have HL := Lib.hid (length_bs t)
    have HC := Lib.hid (show ∀ j, j < t.size → W1.cell? ⟨w.heap.size, j, none⟩ = some (.int .u8 (((bs t).getD j 0).toNat : Int)) from hB)
    have hmv : IntKind.u64.wrap (IntKind.u64.wrap 18446744073709551616 - 1) = 18446744073709551615 := by
      rw [IntKind.wrap_u64, IntKind.wrap_u64]; decide
    clear hN hB h0
    generalize bs t = l at *
    go_enter Tryz.func153, Tryz.ntmps153
    go_wp2
    go_loop [12, 13, 101] (fun vu vn vi => ∃ (k acc : Nat) (a : Int), vu = .bool false ∧ vn = .int .u64 a ∧ vi = .int .i64 k ∧ k ≤ t.size ∧ Hid (a = (acc : Int) ∧ acc < 16 ^ k ∧ hexN l = hexGo acc (l.drop k)))
      (fun _ _ vi => t.size - (RowKit.intOf vi).toNat)
    case atStart => exact ⟨0, 0, 0, rfl, rfl, rfl, by omega, rfl, by decide, HN.out⟩
    case round =>
      obtain ⟨k, acc, a, rfl, rfl, rfl, hk, hh⟩ := hrel
      obtain ⟨ha, hacc, hd⟩ := hh.out
      clear hh
      by_cases hkn : k < t.size
      · have hc := HC.out k hkn
        have hdr := drop_cons l k (by rw [HL.out]; exact hkn)
        rw [hdr] at hd
        generalize l.getD k 0 = c at hc hd
        have hc256 : c.toNat < 256 := c.toNat_lt
        have hpow : (16 : Nat) ^ k ≤ 16 ^ 15 := Nat.pow_le_pow_right (by decide) (by omega)
        have hps : (16 : Nat) ^ (k + 1) = 16 ^ k * 16 := Nat.pow_succ ..
        have h15 : (16 : Nat) ^ 15 = 1152921504606846976 := by decide
        have a0 : 0 ≤ a := by omega
        have a1 : a < 1152921504606846976 := by omega
        have hlb := bits_low c.toNat hc256
        have hlt := low_lt c.toNat hc256
        clear hdr
        have hD : hexD c = if 48 ≤ c.toNat ∧ c.toNat ≤ 57 then some (c.toNat - 48) else if 97 ≤ c.toNat ∧ c.toNat ≤ 102 then some (c.toNat - 87) else if 65 ≤ c.toNat ∧ c.toNat ≤ 70 then some (c.toNat - 55) else none := rfl
        have step : ∀ d : Nat, d < 16 → hexD c = some d → Hid (a * 16 + (d : Int) = ((acc * 16 + d : Nat) : Int) ∧ acc * 16 + d < 16 ^ (k + 1) ∧ hexN l = hexGo (acc * 16 + d) (l.drop (k + 1))) := fun d hd1 hd2 => Lib.hid ⟨by omega, by omega, by rw [hd]; simp only [hexGo, hd2]⟩
        have stop : hexD c = none → Hid (pu16 l = .tuple #[.int .u64 0, .iface 183 (.int .i64 2)]) := fun hn => Lib.hid (by
          unfold pu16; rw [hd]; simp only [hexGo, hn])
        rcases low_cases c.toNat hc256 with ⟨d0, d1⟩ | ⟨hnd, ⟨d0, d1, hor⟩ | ⟨hn1, d0, d1, hor⟩ | ⟨hn1, hn2, hx⟩⟩
        · have HS := step (c.toNat - 48) (by omega) (by rw [hD, if_pos ⟨d0, d1⟩])
          have e1 : ((c.toNat - 48 : Nat) : Int) = (c.toNat : Int) - 48 := by omega
          rw [e1] at HS
          have i0 : (48 : Int) ≤ c.toNat := by omega
          have i1 : (c.toNat : Int) ≤ 57 := by omega
          clear hacc ha hd step stop hD hlb hlt d0 d1 hpow hps h15 e1
          go_wp2
          exact ⟨⟨k + 1, acc * 16 + (c.toNat - 48), a * 16 + ((c.toNat : Int) - 48), rfl, rfl, by go_num, by omega, HS⟩, by simp [RowKit.intOf]; omega⟩
        · have HS := step (c.toNat - 87) (by omega) (by rw [hD, if_neg hnd, if_pos ⟨d0, d1⟩])
          have e1 : ((c.toNat - 87 : Nat) : Int) = (c.toNat : Int) - 97 + 10 := by omega
          rw [e1] at HS
          rw [hor] at hlb
          have i0 : (97 : Int) ≤ c.toNat := by omega
          have i1 : (c.toNat : Int) ≤ 102 := by omega
          clear hacc ha hd step stop hD hlt d0 d1 hpow hps h15 e1 hor hnd
          go_wp2_with (go_at_call 161; refine (Tryz.internal_strconv_lower _ _).mono ?_; rintro e w' ⟨rfl, rfl⟩; rw [hlb])
          exact ⟨⟨k + 1, acc * 16 + (c.toNat - 87), a * 16 + ((c.toNat : Int) - 97 + 10), rfl, rfl, by go_num, by omega, HS⟩, by simp [RowKit.intOf]; omega⟩
        · have HS := step (c.toNat - 55) (by omega) (by rw [hD, if_neg hnd, if_neg hn1, if_pos ⟨d0, d1⟩])
          have e1 : ((c.toNat - 55 : Nat) : Int) = ((c.toNat + 32 : Nat) : Int) - 97 + 10 := by omega
          rw [e1] at HS
          rw [hor] at hlb
          have hm : ∃ m : Nat, m = c.toNat + 32 ∧ 97 ≤ m ∧ m ≤ 102 ∧ ¬ (48 ≤ c.toNat ∧ c.toNat ≤ 57) := ⟨_, rfl, by omega, by omega, hnd⟩
          obtain ⟨m, hm, m0, m1, -⟩ := hm
          rw [← hm] at hlb HS
          have i0 : (57 : Int) < c.toNat := by omega
          have q95 : ((c.toNat : Int) == 95) = false := by rw [beq_eq_false_iff_ne]; omega
          clear hacc ha hd step stop hD hlt hm d0 d1 hpow hps h15 e1 hor hnd hn1
          go_wp2_with (go_at_call 161; refine (Tryz.internal_strconv_lower _ _).mono ?_; rintro e w' ⟨rfl, rfl⟩; rw [hlb])
          exact ⟨⟨k + 1, acc * 16 + (c.toNat - 55), a * 16 + ((m : Int) - 97 + 10), rfl, rfl, by go_num, by omega, HS⟩, by simp [RowKit.intOf]; omega⟩
        · have HS := stop (by rw [hD, if_neg hnd, if_neg hn1, if_neg hn2])
          obtain ⟨m, hm⟩ : ∃ m : Nat, m = c.toNat ||| 32 := ⟨_, rfl⟩
          rw [← hm] at hlb hlt hx
          have hq : ((c.toNat : Int) < 48) ∨ (57 : Int) < c.toNat := by omega
          by_cases h95 : c.toNat = 95
          · rw [h95] at hc
            have hlb9 : bits .or .u8 (95 : Int) 32 = 127 := bits_low 95 (by decide)
            clear hlb
            clear hacc ha hd step stop hD hm hpow hps h15 hnd hn1 hn2 hx hq hlt hc256 h95
            go_wp2_with (go_at_call 161; refine (Tryz.internal_strconv_lower _ _).mono ?_; rintro e w' ⟨rfl, rfl⟩; rw [hlb9])
            go_ret2
            exact ⟨by rw [HS.out]; rfl, HB.out⟩
          have q95 : ((c.toNat : Int) == 95) = false := by rw [beq_eq_false_iff_ne]; omega
          clear hacc ha hd step stop hD hm hpow hps h15 hnd hn1 hn2 h95
          rcases hx with ⟨x0, x1⟩ | x0 | x0 <;> rcases hq with q0 | q0
          all_goals
            go_wp2_with (go_at_call 161; refine (Tryz.internal_strconv_lower _ _).mono ?_; rintro e w' ⟨rfl, rfl⟩; rw [hlb])
            go_ret2
            exact ⟨by rw [HS.out]; rfl, HB.out⟩
      · have hnil : l.drop k = [] := List.drop_eq_nil_of_le (by rw [HL.out]; omega)
        have HP : Hid (pu16 l = .tuple #[.int .u64 (acc : Int), .nilIface]) := Lib.hid (by unfold pu16; rw [hd, hnil]; rfl)
        subst ha
        clear hacc hd hnil
        go_wp2
        go_ret2
        exact ⟨by rw [HP.out]; rfl, HB.out⟩
end Tk
end Go.Proofs.YtpcdaaijlgilkaaGreatDoor
namespace Go.Proofs.YtpcdaaijlgilkaaGreatDoor
open Go.RowKit
namespace Tk

/-- the variable that an error of this kind reads holds an error -/
def ErrV (B : Nat) (w : World) : Prop := 6 < B ∧ B ≤ w.heap.size ∧ ∃ te pe, w.cell? ⟨6, 0, none⟩ = some (.iface te pe)
theorem ErrV.later {B : Nat} {w w' : World} (h : ErrV B w) (hb : Below B w w') : ErrV B w' := by
  obtain ⟨h1, h2, te, pe, h3⟩ := h
  exact ⟨h1, Nat.le_trans h2 hb.size, te, pe, (hb.cell (p := ⟨6, 0, none⟩) h1).trans h3⟩
theorem below_drawsB (B : Nat) (w : World) (n : Nat) : Below B w (w.drewN n) := ⟨rfl, rfl, rfl, Nat.le_refl _, fun _ _ => rfl⟩

set_option maxHeartbeats 1000000 in
set_option maxRecDepth 100000 in
theorem cchars_any (s : ByteArray) (w : World) (hs : s.size ≤ 1099511627776) :
    Calls Tryz.prog 141 #[.string s] w fun e w' => e = .returned (.bool (allL 1 (bs s))) ∧ Below w.heap.size w w' := by
  go_enter Tryz.func141, Tryz.ntmps141
  go_wp2_with fail
  go_loopw [6, 3] (fun v _ wr => ∃ i : Nat, i ≤ s.size ∧ v = .int .i64 i ∧ Hid (Below w.heap.size w wr) ∧ Hid (allL 1 (bs s) = allL 1 ((bs s).drop i))) (fun v _ _ => s.size - (RowKit.intOf v).toNat)
  case atStart => exact ⟨0, Nat.zero_le _, rfl, Below.refl _ _, rfl⟩
  case round =>
    obtain ⟨i, hi, rfl, HB, hd⟩ := hrel
    rename World => W
    by_cases hlt : i < s.size
    · have D := Lib.hid (bs_drop s i hlt)
      have HC := char_any s[i] W
      cases hk : decide (1 ≤ kindOf s[i].toNat)
      · rw [hk] at HC
        have fin : allL 1 (bs s) = false := by rw [hd.out, D.out, allL_cons, hk]; rfl
        have HF := Lib.hid fin
        have HC2 := Lib.hid HC
        clear fin HC hk
        go_wp2_with fail
        refine HC2.out.mono ?_
        rintro e w' ⟨rfl, hb⟩
        have HB2 := Lib.hid (HB.out.trans (hb.mono HB.out.size))
        clear hb
        go_wp2_with fail
        go_ret
        exact ⟨by rw [HF.out]; rfl, HB2.out⟩
      · rw [hk] at HC
        have nx : allL 1 (bs s) = allL 1 ((bs s).drop (i + 1)) := by rw [hd.out, D.out, allL_cons, hk, Bool.true_and]
        have HX := Lib.hid nx
        have HC2 := Lib.hid HC
        clear nx HC hk
        go_wp2_with fail
        refine HC2.out.mono ?_
        rintro e w' ⟨rfl, hb⟩
        have HB2 := Lib.hid (HB.out.trans (hb.mono HB.out.size))
        clear hb
        go_wp2_with fail
        exact ⟨⟨i + 1, by omega, by go_num, HB2, HX⟩, by simp [RowKit.intOf]; omega⟩
    · have fin : allL 1 (bs s) = true := by rw [hd.out, List.drop_eq_nil_of_le (by rw [length_bs]; omega)]; rfl
      have HF := Lib.hid fin
      clear fin
      go_wp2_with fail
      go_ret
      exact ⟨by rw [HF.out]; rfl, HB.out⟩

set_option maxHeartbeats 2000000 in
set_option maxRecDepth 100000 in
theorem syntaxError_any (fn s : ByteArray) (B : Nat) (w : World) (hs : s.size ≤ 281474976710656) (hv : ErrV B w) :
    Calls Tryz.prog 163 #[.string fn, .string s] w fun e w' => ∃ N, e = .returned (.pointer (some ⟨N, 0, none⟩)) ∧ Below B w w' := by
  have HC := Lib.hid (fun W : World => Tryz.stringslite_Clone s W hs)
  obtain ⟨h1, h2, te, pe, h3⟩ := hv
  have hb0 : Below B w w.drew := ⟨rfl, rfl, rfl, Nat.le_refl _, fun _ _ => rfl⟩
  have hlt : (⟨6, 0, none⟩ : Addr).block < w.heap.size := Nat.lt_of_lt_of_le h1 h2
  go_enter Tryz.func163, Tryz.ntmps163
  go_wp2_with fail
  first
  | go_region_with (first | (go_at_call 39; refine (keep_cell (HC.out _) ⟨6, 0, none⟩ _ (by assumption) (by assumption) (by assumption) (by assumption)).mono ?_; rintro e w' ⟨rfl, hb, hs', hc', hg'⟩))
  | fail
  all_goals
    go_wp2_with fail
    go_ret
    exact ⟨_, rfl, by first | assumption | exact Below.alloc (by assumption) (by assumption) _⟩

set_option maxHeartbeats 2000000 in
set_option maxRecDepth 100000 in
theorem toError_any (fn s : ByteArray) (x y : Int) (B : Nat) (w : World) (hs : s.size ≤ 281474976710656) (hv : ErrV B w) :
    Calls Tryz.prog 154 #[.string fn, .string s, .int .i64 x, .int .i64 y, .iface 183 (.int .i64 2)] w fun e w' => ∃ N, e = .returned (.iface 184 (.pointer (some ⟨N, 0, none⟩))) ∧ Below B w w' := by
  have H := Lib.hid (syntaxError_any fn s B w hs hv)
  have heq : ∀ W, (binOp .eql 74 (.iface 183 (.int .i64 2)) (.iface 183 (.int .i64 2))).run Tryz.prog W = .ok (.bool true) W := fun W => Lib.run_eql_iface_int W 2 2 Tryz.underlying74 (by kernel_rfl) Tryz.underlying183
  clear hv
  go_enter Tryz.func154, Tryz.ntmps154
  go_wp2_with fail
  refine H.out.mono ?_
  rintro e w' ⟨N, rfl, hb⟩
  have HB := Lib.hid hb
  clear hb
  go_wp2_with fail
  go_ret
  exact ⟨N, rfl, HB.out⟩
end Tk
end Go.Proofs.YtpcdaaijlgilkaaGreatDoor
namespace Go.Proofs.YtpcdaaijlgilkaaGreatDoor
open Go.RowKit
namespace Tk

set_option maxHeartbeats 1000000 in
set_option maxRecDepth 100000 in
theorem spu16_ok (t : ByteArray) (n B : Nat) (w : World) (hz : t.size ≤ 16) (hB : B ≤ w.heap.size) (hn : hexN (bs t) = some n) :
    Calls Tryz.prog 142 #[.string t, .int .i64 16, .int .i64 64] w fun e w' => e = .returned (.tuple #[.int .u64 n, .nilIface]) ∧ Below B w w' := by
  have h1 := pu16_any t w hz
  have hp : pu16 (bs t) = .tuple #[.int .u64 n, .nilIface] := by unfold pu16; rw [hn]
  rw [hp] at h1
  have H := Lib.hid h1
  clear h1 hp hn
  go_enter Tryz.func142, Tryz.ntmps142
  go_wp2_with fail
  refine H.out.mono ?_
  rintro e w' ⟨rfl, hb⟩
  have HB := Lib.hid (hb.mono hB)
  clear hb
  go_wp2_with fail
  go_ret2
  exact ⟨rfl, HB.out⟩
set_option maxHeartbeats 1000000 in
set_option maxRecDepth 100000 in
theorem spu16_no (t : ByteArray) (B : Nat) (w : World) (hz : t.size ≤ 16) (hv : ErrV B w) (hn : hexN (bs t) = none) :
    Calls Tryz.prog 142 #[.string t, .int .i64 16, .int .i64 64] w fun e w' => ∃ N, e = .returned (.tuple #[.int .u64 0, .iface 184 (.pointer (some ⟨N, 0, none⟩))]) ∧ Below B w w' := by
  have h1 := pu16_any t w hz
  have hp : pu16 (bs t) = .tuple #[.int .u64 0, .iface 183 (.int .i64 2)] := by unfold pu16; rw [hn]
  rw [hp] at h1
  have H := Lib.hid h1
  have HT := Lib.hid (fun (W : World) (h : ErrV B W) => toError_any ⟨#[80, 97, 114, 115, 101, 85, 105, 110, 116]⟩ t 16 64 B W (by omega) h)
  have HV := Lib.hid hv
  clear h1 hp hn hv
  go_enter Tryz.func142, Tryz.ntmps142
  go_wp2_with fail
  refine H.out.mono ?_
  rintro e w' ⟨rfl, hb⟩
  have HB := Lib.hid (hb.mono HV.out.2.1)
  have HV2 := Lib.hid (HV.out.later HB.out)
  clear hb
  go_wp2_with fail
  refine (HT.out _ HV2.out).mono ?_
  rintro e w2 ⟨N, rfl, hb⟩
  have HB2 := Lib.hid (HB.out.trans hb)
  clear hb
  go_wp2_with fail
  go_ret2
  exact ⟨N, rfl, HB2.out⟩

def SizePost (l : Bs) (B : Nat) (w : World) (e : Ending) (w' : World) : Prop := e = .returned (.tuple #[.int .i64 (sizeL l).1, .int .i64 (sizeL l).2]) ∧ Below B w w'

set_option maxHeartbeats 2000000 in
set_option maxRecDepth 100000 in
theorem size_any (s : ByteArray) (B : Nat) (w : World) (hs : s.size ≤ 1099511627776) (hv : ErrV B w) :
    Calls Tryz.prog 115 #[.string s] w (SizePost (bs s) B w) := by
  have HC := Lib.hid (cut_any s 59 w hs)
  unfold CutPost at HC
  have l1 := cut_len1 59 (bs s)
  have l2 := cut_len2 59 (bs s)
  rw [length_bs] at l1 l2
  have hS : sizeL (bs s) = if 16 < (cutL 59 (bs s)).1.length then (0, 400) else if allL 1 (cutL 59 (bs s)).2.1 then match hexN (cutL 59 (bs s)).1 with
    | none => (0, 400)
    | some n => if 9007199254740991 < n then (0, 413) else (n, 0) else (0, 400) := rfl
  have HV := Lib.hid hv
  generalize (cutL 59 (bs s)).1 = X at *
  generalize (cutL 59 (bs s)).2.1 = Y at *
  generalize (cutL 59 (bs s)).2.2 = Z at *
  have hzx := size_mkS X
  have hzy := size_mkS Y
  have HCh := Lib.hid (fun W : World => cchars_any (mkS Y) W (by omega))
  rw [bs_mkS] at HCh
  have HX := Lib.hid (bs_mkS X)
  clear hv
  by_cases h16 : 16 < X.length
  · rw [if_pos h16] at hS
    have HS := Lib.hid hS
    have i16 : (16 : Int) < ((mkS X).size : Int) := by omega
    clear hS h16 HCh
    go_enter Tryz.func115, Tryz.ntmps115
    go_wp2_with fail
    refine HC.out.mono ?_
    rintro e w' ⟨rfl, k, rfl⟩
    go_wp2_with fail
    go_ret2
    exact ⟨by rw [HS.out]; rfl, below_drawsB _ _ _⟩
  · rw [if_neg h16] at hS
    have i16 : ¬ (16 : Int) < ((mkS X).size : Int) := by omega
    have z16 : (mkS X).size ≤ 16 := by omega
    cases hc : allL 1 Y
    · rw [hc] at hS HCh
      have HS := Lib.hid (show sizeL (bs s) = (0, 400) from hS)
      clear hS h16 hc
      go_enter Tryz.func115, Tryz.ntmps115
      go_wp2_with fail
      refine HC.out.mono ?_
      rintro e w' ⟨rfl, k, rfl⟩
      go_wp2_with fail
      refine (HCh.out _).mono ?_
      rintro e w' ⟨rfl, hb⟩
      have HB := Lib.hid ((below_drawsB B w k).trans (hb.mono HV.out.2.1))
      clear hb
      go_wp2_with fail
      go_ret2
      exact ⟨by rw [HS.out]; rfl, HB.out⟩
    · rw [hc] at hS HCh
      cases hx : hexN X with
      | none =>
        rw [hx] at hS
        have HS := Lib.hid (show sizeL (bs s) = (0, 400) from hS)
        have HP := Lib.hid (fun (W : World) (h : ErrV B W) => spu16_no (mkS X) B W z16 h (by rw [bs_mkS]; exact hx))
        clear hS h16 hc hx z16
        go_enter Tryz.func115, Tryz.ntmps115
        go_wp2_with fail
        refine HC.out.mono ?_
        rintro e w' ⟨rfl, k, rfl⟩
        go_wp2_with fail
        refine (HCh.out _).mono ?_
        rintro e w' ⟨rfl, hb⟩
        have HB := Lib.hid ((below_drawsB B w k).trans (hb.mono HV.out.2.1))
        have HV2 := Lib.hid (HV.out.later HB.out)
        clear hb
        go_wp2_with fail
        refine (HP.out _ HV2.out).mono ?_
        rintro e w2 ⟨N, rfl, hb⟩
        have HB2 := Lib.hid (HB.out.trans hb)
        clear hb
        go_wp2_with fail
        go_ret2
        exact ⟨by rw [HS.out]; rfl, HB2.out⟩
      | some n =>
        rw [hx] at hS
        have HP := Lib.hid (fun (W : World) (h : ErrV B W) => spu16_ok (mkS X) n B W z16 h.2.1 (by rw [bs_mkS]; exact hx))
        have hS2 : sizeL (bs s) = if 9007199254740991 < n then (0, 413) else (n, 0) := hS
        by_cases hm : 9007199254740991 < n
        · rw [if_pos hm] at hS2
          have HS := Lib.hid hS2
          have im : (9007199254740991 : Int) < (n : Int) := by omega
          clear hS hS2 h16 hc hx z16 hm
          go_enter Tryz.func115, Tryz.ntmps115
          go_wp2_with fail
          refine HC.out.mono ?_
          rintro e w' ⟨rfl, k, rfl⟩
          go_wp2_with fail
          refine (HCh.out _).mono ?_
          rintro e w' ⟨rfl, hb⟩
          have HB := Lib.hid ((below_drawsB B w k).trans (hb.mono HV.out.2.1))
          have HV2 := Lib.hid (HV.out.later HB.out)
          clear hb
          go_wp2_with fail
          refine (HP.out _ HV2.out).mono ?_
          rintro e w2 ⟨rfl, hb⟩
          have HB2 := Lib.hid (HB.out.trans hb)
          clear hb
          go_wp2_with fail
          go_ret2
          exact ⟨by rw [HS.out]; rfl, HB2.out⟩
        · rw [if_neg hm] at hS2
          have HS := Lib.hid hS2
          have im : ¬ (9007199254740991 : Int) < (n : Int) := by omega
          have im2 : (n : Int) ≤ 9007199254740991 := by omega
          have im3 : (0 : Int) ≤ (n : Int) := by omega
          clear hS hS2 h16 hc hx z16 hm
          go_enter Tryz.func115, Tryz.ntmps115
          go_wp2_with fail
          refine HC.out.mono ?_
          rintro e w' ⟨rfl, k, rfl⟩
          go_wp2_with fail
          refine (HCh.out _).mono ?_
          rintro e w' ⟨rfl, hb⟩
          have HB := Lib.hid ((below_drawsB B w k).trans (hb.mono HV.out.2.1))
          have HV2 := Lib.hid (HV.out.later HB.out)
          clear hb
          go_wp2_with fail
          refine (HP.out _ HV2.out).mono ?_
          rintro e w2 ⟨rfl, hb⟩
          have HB2 := Lib.hid (HB.out.trans hb)
          clear hb
          go_wp2_with fail
          go_ret2
          exact ⟨by rw [HS.out]; rfl, HB2.out⟩
end Tk
end Go.Proofs.YtpcdaaijlgilkaaGreatDoor
