/- MsgD MsgA MsgB MsgC, put together. -/
import Derived.Test.YtpcdaaijlgilkaaGreatDoorQD
import Derived.Test.YtpcdaaijlgilkaaGreatDoorQE
import Derived.WalkSmall
import Derived.LaidEqlPtr
import Derived.Deep.MidRow
import Derived.Test.YtpcdaaijlgilkaaGreatDoorQB
import Derived.BigQuiet
import Derived.Deep.Cut
namespace Go.Proofs.YtpcdaaijlgilkaaGreatDoor
open Go.RowKit
namespace Tk

/-- a row of texts of which the first ones were cut off -/
def Meth (w : World) (B : Nat) (v : Value) (l : List Bs) : Prop :=
  ∃ (u : Value) (k : Nat) (a : List Bs), w.ownsRow B 9 1 u a.length (strs a) ∧ u.ownBlock = v.ownBlock ∧ a.drop k = l ∧
    ((k = 0 ∧ v = u) ∨ ∃ g cap o, u = .slice (some ⟨g, 0, none⟩) a.length cap ∧ v = .slice (some ⟨g, o, none⟩) l.length (cap - k) ∧ k ≤ a.length ∧ (k < a.length → o = k))
theorem Meth.of {w : World} {B : Nat} {v : Value} {l : List Bs} (h : w.ownsRow B 9 1 v l.length (strs l)) : Meth w B v l := ⟨v, 0, l, h, rfl, rfl, .inl ⟨rfl, rfl⟩⟩
theorem Meth.nil (w : World) (B : Nat) : Meth w B (.slice none 0 0) [] := Meth.of (World.ownsRow_nil _ _ _ _)
theorem Meth.lt {w : World} {B : Nat} {v : Value} {l : List Bs} (h : Meth w B v l) (k : Nat) (hk : v.ownBlock = some k) : B ≤ k ∧ k < w.heap.size := by
  obtain ⟨u, _, a, h1, h2, _⟩ := h; exact h1.lt k (h2.trans hk)
theorem Meth.heap {w w' : World} {B : Nat} {v : Value} {l : List Bs} (h : Meth w B v l) (hk : ∀ k, v.ownBlock = some k → w'.heap[k]? = w.heap[k]?) : Meth w' B v l := by
  obtain ⟨u, j, a, h1, h2, h3⟩ := h; exact ⟨u, j, a, own_heap h1 (fun k e => hk k (h2 ▸ e)), h2, h3⟩
theorem Meth.ne {w : World} {B : Nat} {v : Value} {l : List Bs} {T : TypeId} {b : Nat} {cs : Array Value} {fr : Nat × Nat} (h : Meth w B v l) (hb : w.heap[b]? = some (.cells cs T fr)) (hT : T ≠ 9) : v.ownBlock ≠ some b := by
  obtain ⟨u, _, a, h1, h2, _⟩ := h; rw [← h2]; exact own_ne h1 hb hT
theorem Meth.ne2 {w : World} {B B' n size : Nat} {e : TypeId} {v' v : Value} {xs : List Value} {l : List Bs} (h' : w.ownsRow B' e size v' n xs) (h : Meth w B v l) (hT : 9 ≠ e) (k : Nat) (hk : v.ownBlock = some k) : v'.ownBlock ≠ some k := by
  obtain ⟨u, _, a, h1, h2, _⟩ := h; exact own_ne2 h' h1 hT k (h2.trans hk)
theorem Meth.val {w : World} {B : Nat} {v : Value} {l : List Bs} (h : Meth w B v l) : ∃ a cap, v = .slice a l.length cap := by
  obtain ⟨u, k, a, h1, h2, h3, ⟨rfl, rfl⟩ | ⟨g, cap, o, -, hv, -, -⟩⟩ := h
  · have h3 : a = l := h3
    subst h3
    rcases h1.2 with ⟨hv, h0⟩ | ⟨g, cap, cur, hv, _⟩
    · exact ⟨none, 0, by rw [hv, h0]⟩
    · exact ⟨_, _, hv⟩
  · exact ⟨_, _, hv⟩
/-- the first one of them, and the row without it -/
theorem Meth.cons {w : World} {B : Nat} {v : Value} {x : Bs} {t : List Bs} (h : Meth w B v (x :: t)) :
    ∃ g o cap, v = .slice (some ⟨g, o, none⟩) (t.length + 1) cap ∧ t.length + 1 ≤ cap ∧ w.cell? ⟨g, o, none⟩ = some (.string (mkS x)) ∧ ∀ o', (cap - 1 ≠ 0 → o' = o + 1) → Meth w B (.slice (some ⟨g, o', none⟩) t.length (cap - 1)) t := by
  obtain ⟨u, k, a, h1, h2, h3, h4⟩ := h
  have hal : k < a.length := by have := congrArg List.length h3; simp at this; omega
  have hx : a[k]? = some x := by rw [show a[k]? = (a.drop k)[0]? by simp, h3]; rfl
  have ht : a.drop (k + 1) = t := by rw [← List.drop_drop, h3]; rfl
  have hal2 : a.length = k + (t.length + 1) := by have := congrArg List.length h3; simp at this; omega
  rcases h1.2 with ⟨hv, h0⟩ | ⟨g, cap, cur, hv, hB, hg, hnc, hcm, hcs, hts⟩
  · omega
  · have hc : w.cell? ⟨g, k, none⟩ = some (.string (mkS x)) := by
      have := h1.cells (g := g) (by rw [hv]; rfl) k (.string (mkS x)) (by simp [strs, hx])
      rw [Go.WideShapes.add_plain, Nat.zero_add] at this
      exact this
    have hcap : ∃ o, v = .slice (some ⟨g, o, none⟩) (t.length + 1) (cap - k) ∧ o = k := by
      rcases h4 with ⟨hk0, hvu⟩ | ⟨g2, cap2, o, hu, hv2, hk, ho⟩
      · exact ⟨0, by rw [hvu, hv, hk0, hal2, hk0]; simp, hk0.symm⟩
      · rw [hv] at hu; injection hu with e1 e2 e3; injection e1 with e1; injection e1 with e1 e4
        subst e1; subst e3
        exact ⟨o, by rw [hv2]; rfl, ho hal⟩
    obtain ⟨o, hvo, hok⟩ := hcap
    refine ⟨g, o, cap - k, hvo, by omega, by rw [hok]; exact hc, fun o' ho' => ⟨u, k + 1, a, h1, by rw [hv]; rfl, ht, .inr ⟨g, cap, o', hv, ?_, by omega, fun hlt => ?_⟩⟩⟩
    · rw [Nat.sub_sub]
    · rw [ho' (by omega), hok]

/-- the rows of a parser: methods, line, fields, trailers, content; the decoder that its field names; the decoder's block and rows -/
structure PV where
  m : Value
  l : Value
  f : Value
  t : Value
  y : Value
  c : Value
  d : Option Nat
  dl : Value
  db : Value
  dt : Value
/-- the state that a parser's field holds -/
def pstV : Nat → Value
  | 0 => .func (.func 40) #[] #[]
  | 1 => .func (.func 50) #[] #[]
  | 2 => .func (.func 41) #[] #[]
  | 3 => .func (.func 53) #[] #[]
  | 4 => .func (.func 77) #[] #[]
  | 5 => .func (.func 80) #[] #[]
  | 6 => .func (.func 79) #[] #[]
  | _ => .nilFunc
/-- its cells; q, z, lf: what its fields state, status and left hold -/
def pcells (b : Nat) (s : Pr) (q z lf : Nat) (V : PV) : Array Value :=
  #[ptr b, .int .i64 s.L, .int .i64 s.H, .int .i64 s.C, .int .i64 s.M, .bool s.rsp, V.m, .int .i64 z, pstV q, .int .i64 lf, .int .i64 s.head, V.l,
    .string (mkS s.msg.m), .string (mkS s.msg.t), .int .i64 s.msg.st, .string (mkS s.msg.r), .int .i64 s.msg.mi, V.f, .string (mkS s.msg.body), V.t, .int .i64 s.kind, .int .i64 s.len, V.y, V.c]

def OwnP (b : Nat) (V : PV) (k : Nat) : Prop := k = b ∨ V.m.ownBlock = some k ∨ V.l.ownBlock = some k ∨ V.f.ownBlock = some k ∨ V.t.ownBlock = some k ∨ V.y.ownBlock = some k
def DecM (V : PV) (k : Nat) : Prop := ∃ bd, V.d = some bd ∧ Mine bd V.dl V.db V.dt k
def PMine (b : Nat) (V : PV) (k : Nat) : Prop := OwnP b V k ∨ DecM V k

structure Par (B b : Nat) (s : Pr) (q z lf : Nat) (V : PV) (w : World) : Prop where
  hB : B ≤ b
  blk : w.heap[b]? = some (.cells (pcells b s q z lf V) 72 (0, 0))
  meth : Meth w B V.m s.asked
  line : w.ownsRow B 5 1 V.l s.line.length (Lib.byteCells s.line)
  flds : w.ownsRow B 84 2 V.f s.msg.f.length (fcells s.msg.f)
  trl : w.ownsRow B 84 2 V.t s.msg.tr.length (fcells s.msg.tr)
  body : w.ownsRow B 5 1 V.y s.body.length (Lib.byteCells s.body)
  lb : ∀ k, V.l.ownBlock = some k → V.y.ownBlock ≠ some k
  ft : ∀ k, V.f.ownBlock = some k → V.t.ownBlock ≠ some k
  dec : s.mode = 6 → ∃ bd, V.c = ptr bd ∧ V.d = some bd ∧ Dec B bd s.dc V.dl V.db V.dt w
  dlt : ∀ k, DecM V k → B ≤ k ∧ k < w.heap.size
  apd : ∀ k, DecM V k → ¬ OwnP b V k

/-- what a call may turn: its own blocks, and those of X -/
structure PTn (b : Nat) (V V' : PV) (X : Nat → Prop) (w w' : World) : Prop where
  os : w'.os = w.os
  tape : w'.tape = w.tape
  output : w'.output = w.output
  size : w.heap.size ≤ w'.heap.size
  block : ∀ k, k < w.heap.size → ¬ PMine b V k → ¬ X k → w'.heap[k]? = w.heap[k]?
  new : ∀ k, PMine b V' k → PMine b V k ∨ w.heap.size ≤ k

variable {B b : Nat} {s : Pr} {q z lf : Nat} {V V' V2 : PV} {X : Nat → Prop} {w w' w2 : World}

theorem Par.lt (h : Par B b s q z lf V w) : b < w.heap.size := (Array.getElem?_eq_some_iff.1 h.blk).1
theorem Par.cell (h : Par B b s q z lf V w) (i : Nat) (v : Value) (hv : (pcells b s q z lf V)[i]? = some v) : w.cell? ⟨b, i, none⟩ = some v := by rw [Lib.cell_of_heap h.blk]; exact hv
theorem Par.frz (h : Par B b s q z lf V w) (i : Nat) : w.frozen? ⟨b, i, none⟩ = false := Lib.frozen_of_heap h.blk i
theorem Par.mineLt (h : Par B b s q z lf V w) (k : Nat) (hk : PMine b V k) : B ≤ k ∧ k < w.heap.size := by
  rcases hk with (rfl | hk | hk | hk | hk | hk) | hk
  · exact ⟨h.hB, h.lt⟩
  · exact h.meth.lt k hk
  · exact h.line.lt k hk
  · exact h.flds.lt k hk
  · exact h.trl.lt k hk
  · exact h.body.lt k hk
  · exact h.dlt k hk
theorem Par.same (h : Par B b s q z lf V w) (hs : w.heap.size ≤ w'.heap.size) (hk : ∀ k, PMine b V k → w'.heap[k]? = w.heap[k]?) : Par B b s q z lf V w' :=
  ⟨h.hB, (hk b (.inl (.inl rfl))).trans h.blk, Meth.heap h.meth fun k e => hk k (.inl (.inr (.inl e))), own_heap h.line fun k e => hk k (.inl (.inr (.inr (.inl e)))), own_heap h.flds fun k e => hk k (.inl (.inr (.inr (.inr (.inl e))))), own_heap h.trl fun k e => hk k (.inl (.inr (.inr (.inr (.inr (.inl e)))))), own_heap h.body fun k e => hk k (.inl (.inr (.inr (.inr (.inr (.inr e)))))), h.lb, h.ft,
    fun hm => by obtain ⟨bd, h1, h2, h3⟩ := h.dec hm; exact ⟨bd, h1, h2, h3.same fun k e => hk k (.inr ⟨bd, h2, e⟩)⟩, fun k e => ⟨(h.dlt k e).1, Nat.lt_of_lt_of_le (h.dlt k e).2 hs⟩, h.apd⟩
theorem Par.below (h : Par B b s q z lf V w) (hb : Below w.heap.size w w') : Par B b s q z lf V w' := h.same hb.size fun k hk => hb.block k (h.mineLt k hk).2
theorem Par.draws (h : Par B b s q z lf V w) (n : Nat) : Par B b s q z lf V (w.drewN n) := h.below ⟨rfl, rfl, rfl, Nat.le_refl _, fun _ _ => rfl⟩
theorem Par.aside (h : Par B b s q z lf V w) {k : Nat} (hk : ¬ PMine b V k) (o : Nat) (u : Value) : Par B b s q z lf V (w.setCell ⟨k, o, none⟩ u) :=
  h.same (by simp) fun j hj => Below.heap_setCell _ _ _ _ (by show j ≠ k; rintro rfl; exact hk hj)

theorem PTn.of (hb : Below w.heap.size w w') : PTn b V V X w w' := ⟨hb.os, hb.tape, hb.output, hb.size, fun k hk _ _ => hb.block k hk, fun _ hk => .inl hk⟩
theorem PTn.refl : PTn b V V X w w := PTn.of (Below.refl _ _)
theorem PTn.draws (n : Nat) : PTn b V V X w (w.drewN n) := PTn.of ⟨rfl, rfl, rfl, Nat.le_refl _, fun _ _ => rfl⟩
theorem PTn.trans (h : PTn b V V' X w w') (h2 : PTn b V' V2 X w' w2) : PTn b V V2 X w w2 := by
  refine ⟨h2.os.trans h.os, h2.tape.trans h.tape, h2.output.trans h.output, Nat.le_trans h.size h2.size, fun k hk hm hx => ?_, fun k hk => ?_⟩
  · refine (h2.block k (Nat.lt_of_lt_of_le hk h.size) (fun hm' => ?_) hx).trans (h.block k hk hm hx)
    rcases h.new k hm' with h3 | h3
    · exact hm h3
    · omega
  · rcases h2.new k hk with h3 | h3
    · exact h.new k h3
    · exact .inr (Nat.le_trans h.size h3)
theorem PTn.mono {Y : Nat → Prop} (h : PTn b V V' X w w') (hx : ∀ k, k < w.heap.size → X k → Y k) : PTn b V V' Y w w' := ⟨h.os, h.tape, h.output, h.size, fun k hk hm hy => h.block k hk hm (fun e => hy (hx k hk e)), h.new⟩
theorem PTn.toBelow (h : PTn b V V' X w w') (hd : Par B b s q z lf V w) (hx : ∀ k, X k → B ≤ k) : Below B w w' :=
  ⟨h.os, h.tape, h.output, h.size, fun k hk => h.block k (by have := hd.hB; have := hd.lt; omega) (fun hm => by have := (hd.mineLt k hm).1; omega) (fun e => by have := hx k e; omega)⟩
theorem PTn.aside (h : PTn b V V' X w w') {k : Nat} (hk : X k ∨ w.heap.size ≤ k) (o : Nat) (u : Value) : PTn b V V' X w (w'.setCell ⟨k, o, none⟩ u) :=
  ⟨h.os, h.tape, h.output, by simpa using h.size, fun j hj hm hx => (Below.heap_setCell _ _ _ _ (by show j ≠ k; rintro rfl; rcases hk with hk | hk; exact hx hk; omega)).trans (h.block j hj hm hx), h.new⟩
theorem PTn.box (h : PTn b V V' X w w') {k : Nat} (hk : k < w.heap.size ∧ ¬ PMine b V k) (hx : ¬ X k) (o : Nat) :
    w'.cell? ⟨k, o, none⟩ = w.cell? ⟨k, o, none⟩ ∧ w'.frozen? ⟨k, o, none⟩ = w.frozen? ⟨k, o, none⟩ :=
  ⟨World.cell?_of_block (w := w) (h.block k hk.1 hk.2 hx), World.frozen?_of_block (w := w) (h.block k hk.1 hk.2 hx)⟩
theorem PTn.not_mine (h : PTn b V V' X w w') {k : Nat} (hk : k < w.heap.size ∧ ¬ PMine b V k) : ¬ PMine b V' k := fun hm => by
  rcases h.new k hm with h1 | h1
  · exact hk.2 h1
  · omega

/-- no row of its own is its block -/
theorem Par.neB (h : Par B b s q z lf V w) : V.m.ownBlock ≠ some b ∧ V.l.ownBlock ≠ some b ∧ V.f.ownBlock ≠ some b ∧ V.t.ownBlock ≠ some b ∧ V.y.ownBlock ≠ some b :=
  ⟨Meth.ne h.meth h.blk (by decide), own_ne h.line h.blk (by decide), own_ne h.flds h.blk (by decide), own_ne h.trl h.blk (by decide), own_ne h.body h.blk (by decide)⟩
/-- cells that are no rows are stored -/
theorem Par.cells (h : Par B b s q z lf V w) (s' : Pr) (q' z' lf' : Nat) (hk : ∀ k, k ≠ b → w'.heap[k]? = w.heap[k]?) (hb : w'.heap[b]? = some (.cells (pcells b s' q' z' lf' V) 72 (0, 0))) (hs : w.heap.size ≤ w'.heap.size)
    (h1 : s'.asked = s.asked) (h2 : s'.line = s.line) (h3 : s'.msg.f = s.msg.f) (h4 : s'.msg.tr = s.msg.tr) (h5 : s'.body = s.body) (h6 : s'.mode = 6 → s.mode = 6 ∧ s'.dc = s.dc) : Par B b s' q' z' lf' V w' := by
  obtain ⟨n1, n2, n3, n4, n5⟩ := h.neB
  refine ⟨h.hB, hb, ?_, ?_, ?_, ?_, ?_, h.lb, h.ft, fun hm => ?_, fun k e => ⟨(h.dlt k e).1, Nat.lt_of_lt_of_le (h.dlt k e).2 hs⟩, h.apd⟩
  · rw [h1]; exact Meth.heap h.meth fun k e => hk k (fun e2 => n1 (e2 ▸ e))
  · rw [h2]; exact own_heap h.line fun k e => hk k (fun e2 => n2 (e2 ▸ e))
  · rw [h3]; exact own_heap h.flds fun k e => hk k (fun e2 => n3 (e2 ▸ e))
  · rw [h4]; exact own_heap h.trl fun k e => hk k (fun e2 => n4 (e2 ▸ e))
  · rw [h5]; exact own_heap h.body fun k e => hk k (fun e2 => n5 (e2 ▸ e))
  · obtain ⟨m1, m2⟩ := h6 hm
    obtain ⟨bd, d1, d2, d3⟩ := h.dec m1
    refine ⟨bd, d1, d2, ?_⟩
    rw [m2]
    exact d3.same fun k e => hk k (fun e2 => h.apd k ⟨bd, d2, e⟩ (.inl e2))
theorem Par.set (h : Par B b s q z lf V w) (i : Nat) (u : Value) (s' : Pr) (q' z' lf' : Nat) (hs : (pcells b s q z lf V).setIfInBounds i u = pcells b s' q' z' lf' V)
    (h1 : s'.asked = s.asked) (h2 : s'.line = s.line) (h3 : s'.msg.f = s.msg.f) (h4 : s'.msg.tr = s.msg.tr) (h5 : s'.body = s.body) (h6 : s'.mode = 6 → s.mode = 6 ∧ s'.dc = s.dc) : Par B b s' q' z' lf' V (w.setCell ⟨b, i, none⟩ u) :=
  h.cells s' q' z' lf' (fun k hk => Below.heap_setCell _ _ _ _ hk) (by rw [heap_setCell_same w b i _ _ u h.blk, hs]) (by simp) h1 h2 h3 h4 h5 h6
theorem PTn.set (i : Nat) (u : Value) : PTn b V V X w (w.setCell ⟨b, i, none⟩ u) :=
  ⟨rfl, rfl, rfl, by simp, fun k _ hm _ => Below.heap_setCell _ _ _ _ (fun e => hm (.inl (.inl e))), fun _ hk => .inl hk⟩

/-- it goes on with a parser s' -/
def PTo (B b : Nat) (s' : Pr) (q z lf : Nat) (V : PV) (X : Nat → Prop) (w w' : World) : Prop := ∃ V', Par B b s' q z lf V' w' ∧ PTn b V V' X w w'
theorem PTo.of (h : Par B b s q z lf V w) (hb : Below w.heap.size w w') : PTo B b s q z lf V X w w' := ⟨V, h.below hb, PTn.of hb⟩
theorem PTo.refl (h : Par B b s q z lf V w) : PTo B b s q z lf V X w w := ⟨V, h, PTn.refl⟩
theorem PTo.below (h : PTo B b s q z lf V X w w') (hb : Below w'.heap.size w' w2) : PTo B b s q z lf V X w w2 := by
  obtain ⟨V', h1, h2⟩ := h
  exact ⟨V', h1.below hb, h2.trans (PTn.of hb)⟩

/-- the line has a row that is longer -/
theorem Par.putLine (h : Par B b s q z lf V w) (c : UInt8) {v' : Value} (ho : w2.ownsRow B 5 1 v' (s.line.length + 1) (Lib.byteCells s.line ++ [.int .u8 c.toNat])) (hg : w.grownBy w2 V.l.ownBlock) (hst : ∀ k, v'.ownBlock = some k → V.l.ownBlock = some k ∨ w.heap.size ≤ k) :
    Par B b { s with line := s.line ++ [c] } q z lf { V with l := v' } (w2.setCell ⟨b, 11, none⟩ v') ∧ PTn b V { V with l := v' } X w (w2.setCell ⟨b, 11, none⟩ v') := by
  obtain ⟨n1, n2, n3, n4, n5⟩ := h.neB
  have hk2 : w2.heap[b]? = some (.cells (pcells b s q z lf V) 72 (0, 0)) := (hg.block b h.lt (fun e => n2 e.symm)).trans h.blk
  have hm2 : Meth w2 B V.m s.asked := Meth.heap h.meth fun k e => hg.block k (h.meth.lt k e).2 (fun e2 => Meth.ne2 h.line h.meth (by decide) k e e2.symm)
  have hf2 : w2.ownsRow B 84 2 V.f s.msg.f.length (fcells s.msg.f) := own_heap h.flds fun k e => hg.block k (h.flds.lt k e).2 (fun e2 => own_ne2 h.line h.flds (by decide) k e e2.symm)
  have ht2 : w2.ownsRow B 84 2 V.t s.msg.tr.length (fcells s.msg.tr) := own_heap h.trl fun k e => hg.block k (h.trl.lt k e).2 (fun e2 => own_ne2 h.line h.trl (by decide) k e e2.symm)
  have hy2 : w2.ownsRow B 5 1 V.y s.body.length (Lib.byteCells s.body) := own_heap h.body fun k e => hg.block k (h.body.lt k e).2 (fun e2 => h.lb k e2.symm e)
  have hne : ∀ k, k ≠ b → (w2.setCell ⟨b, 11, none⟩ v').heap[k]? = w2.heap[k]? := fun k hk => Below.heap_setCell _ _ _ _ hk
  have ho2 : w2.ownsRow B 5 1 v' (s.line ++ [c]).length (Lib.byteCells (s.line ++ [c])) := by
    rw [List.length_append]
    have e : Lib.byteCells (s.line ++ [c]) = Lib.byteCells s.line ++ [.int .u8 c.toNat] := by simp [Lib.byteCells]
    rw [e]; exact ho
  refine ⟨⟨h.hB, ?_, Meth.heap hm2 fun k e => hne k (fun e2 => n1 (e2 ▸ e)), own_heap ho2 fun k e => hne k (fun e2 => own_ne ho2 hk2 (by decide) (e2 ▸ e)), own_heap hf2 fun k e => hne k (fun e2 => n3 (e2 ▸ e)), own_heap ht2 fun k e => hne k (fun e2 => n4 (e2 ▸ e)), own_heap hy2 fun k e => hne k (fun e2 => n5 (e2 ▸ e)), ?_, h.ft, ?_, fun k e => ⟨(h.dlt k e).1, by have := (h.dlt k e).2; have := hg.size; simp; omega⟩, ?_⟩, ⟨hg.os, hg.tape, hg.output, by simpa using hg.size, ?_, ?_⟩⟩
  · rw [heap_setCell_same w2 b 11 _ _ v' hk2]; rfl
  · intro k hk hv
    rcases hst k hk with h1 | h1
    · exact h.lb k h1 hv
    · have := (h.body.lt k hv).2; omega
  · intro hm
    obtain ⟨bd, d1, d2, d3⟩ := h.dec hm
    refine ⟨bd, d1, d2, d3.same fun k e => (hne k (fun e2 => h.apd k ⟨bd, d2, e⟩ (.inl e2))).trans (hg.block k (h.dlt k ⟨bd, d2, e⟩).2 fun e2 => h.apd k ⟨bd, d2, e⟩ (.inr (.inr (.inl e2.symm))))⟩
  · intro k e ho
    rcases ho with e2 | e2 | e2 | e2 | e2 | e2
    · exact h.apd k e (.inl e2)
    · exact h.apd k e (.inr (.inl e2))
    · rcases hst k e2 with h1 | h1
      · exact h.apd k e (.inr (.inr (.inl h1)))
      · have := (h.dlt k e).2; omega
    · exact h.apd k e (.inr (.inr (.inr (.inl e2))))
    · exact h.apd k e (.inr (.inr (.inr (.inr (.inl e2)))))
    · exact h.apd k e (.inr (.inr (.inr (.inr (.inr e2)))))
  · intro k hk hm _
    rw [hne k (fun e => hm (.inl (.inl e)))]
    exact hg.block k hk fun e => hm (.inl (.inr (.inr (.inl e.symm))))
  · intro k hk
    rcases hk with (e2 | e2 | e2 | e2 | e2 | e2) | e2
    · exact .inl (.inl (.inl e2))
    · exact .inl (.inl (.inr (.inl e2)))
    · rcases hst k e2 with h1 | h1
      · exact .inl (.inl (.inr (.inr (.inl h1))))
      · exact .inr h1
    · exact .inl (.inl (.inr (.inr (.inr (.inl e2)))))
    · exact .inl (.inl (.inr (.inr (.inr (.inr (.inl e2))))))
    · exact .inl (.inl (.inr (.inr (.inr (.inr (.inr e2))))))
    · exact .inl (.inr e2)

/-- the content has a row that is longer -/
theorem Par.putBody (h : Par B b s q z lf V w) (t : Bs) {v' : Value} (ho : w2.ownsRow B 5 1 v' (s.body.length + t.length) (Lib.byteCells s.body ++ Lib.byteCells t)) (hg : w.grownBy w2 V.y.ownBlock) (hst : ∀ k, v'.ownBlock = some k → V.y.ownBlock = some k ∨ w.heap.size ≤ k) :
    Par B b { s with body := s.body ++ t } q z lf { V with y := v' } (w2.setCell ⟨b, 22, none⟩ v') ∧ PTn b V { V with y := v' } X w (w2.setCell ⟨b, 22, none⟩ v') := by
  obtain ⟨n1, n2, n3, n4, n5⟩ := h.neB
  have hk2 : w2.heap[b]? = some (.cells (pcells b s q z lf V) 72 (0, 0)) := (hg.block b h.lt (fun e => n5 e.symm)).trans h.blk
  have hm2 : Meth w2 B V.m s.asked := Meth.heap h.meth fun k e => hg.block k (h.meth.lt k e).2 (fun e2 => Meth.ne2 h.body h.meth (by decide) k e e2.symm)
  have hl2 : w2.ownsRow B 5 1 V.l s.line.length (Lib.byteCells s.line) := own_heap h.line fun k e => hg.block k (h.line.lt k e).2 (fun e2 => h.lb k e e2.symm)
  have hf2 : w2.ownsRow B 84 2 V.f s.msg.f.length (fcells s.msg.f) := own_heap h.flds fun k e => hg.block k (h.flds.lt k e).2 (fun e2 => own_ne2 h.body h.flds (by decide) k e e2.symm)
  have ht2 : w2.ownsRow B 84 2 V.t s.msg.tr.length (fcells s.msg.tr) := own_heap h.trl fun k e => hg.block k (h.trl.lt k e).2 (fun e2 => own_ne2 h.body h.trl (by decide) k e e2.symm)
  have hne : ∀ k, k ≠ b → (w2.setCell ⟨b, 22, none⟩ v').heap[k]? = w2.heap[k]? := fun k hk => Below.heap_setCell _ _ _ _ hk
  have ho2 : w2.ownsRow B 5 1 v' (s.body ++ t).length (Lib.byteCells (s.body ++ t)) := by
    rw [List.length_append]
    have e : Lib.byteCells (s.body ++ t) = Lib.byteCells s.body ++ Lib.byteCells t := by simp [Lib.byteCells]
    rw [e]; exact ho
  refine ⟨⟨h.hB, ?_, Meth.heap hm2 fun k e => hne k (fun e2 => n1 (e2 ▸ e)), own_heap hl2 fun k e => hne k (fun e2 => n2 (e2 ▸ e)), own_heap hf2 fun k e => hne k (fun e2 => n3 (e2 ▸ e)), own_heap ht2 fun k e => hne k (fun e2 => n4 (e2 ▸ e)), own_heap ho2 fun k e => hne k (fun e2 => own_ne ho2 hk2 (by decide) (e2 ▸ e)), ?_, h.ft, ?_, fun k e => ⟨(h.dlt k e).1, by have := (h.dlt k e).2; have := hg.size; simp; omega⟩, ?_⟩, ⟨hg.os, hg.tape, hg.output, by simpa using hg.size, ?_, ?_⟩⟩
  · rw [heap_setCell_same w2 b 22 _ _ v' hk2]; rfl
  · intro k hk hv
    rcases hst k hv with h1 | h1
    · exact h.lb k hk h1
    · have := (h.line.lt k hk).2; omega
  · intro hm
    obtain ⟨bd, d1, d2, d3⟩ := h.dec hm
    refine ⟨bd, d1, d2, d3.same fun k e => (hne k (fun e2 => h.apd k ⟨bd, d2, e⟩ (.inl e2))).trans (hg.block k (h.dlt k ⟨bd, d2, e⟩).2 fun e2 => h.apd k ⟨bd, d2, e⟩ (.inr (.inr (.inr (.inr (.inr e2.symm))))))⟩
  · intro k e ho
    rcases ho with e2 | e2 | e2 | e2 | e2 | e2
    · exact h.apd k e (.inl e2)
    · exact h.apd k e (.inr (.inl e2))
    · exact h.apd k e (.inr (.inr (.inl e2)))
    · exact h.apd k e (.inr (.inr (.inr (.inl e2))))
    · exact h.apd k e (.inr (.inr (.inr (.inr (.inl e2)))))
    · rcases hst k e2 with h1 | h1
      · exact h.apd k e (.inr (.inr (.inr (.inr (.inr h1)))))
      · have := (h.dlt k e).2; omega
  · intro k hk hm _
    rw [hne k (fun e => hm (.inl (.inl e)))]
    exact hg.block k hk fun e => hm (.inl (.inr (.inr (.inr (.inr (.inr e.symm))))))
  · intro k hk
    rcases hk with (e2 | e2 | e2 | e2 | e2 | e2) | e2
    · exact .inl (.inl (.inl e2))
    · exact .inl (.inl (.inr (.inl e2)))
    · exact .inl (.inl (.inr (.inr (.inl e2))))
    · exact .inl (.inl (.inr (.inr (.inr (.inl e2)))))
    · exact .inl (.inl (.inr (.inr (.inr (.inr (.inl e2))))))
    · rcases hst k e2 with h1 | h1
      · exact .inl (.inl (.inr (.inr (.inr (.inr (.inr h1))))))
      · exact .inr h1
    · exact .inl (.inr e2)

/-- the list of fields has a row that is longer -/
theorem Par.putFld (h : Par B b s q z lf V w) (p : Bs × Bs) {v' : Value} (ho : w2.ownsRow B 84 2 v' (s.msg.f.length + 1) (fcells s.msg.f ++ [.string (mkS p.1), .string (mkS p.2)])) (hg : w.grownBy w2 V.f.ownBlock) (hst : ∀ k, v'.ownBlock = some k → V.f.ownBlock = some k ∨ w.heap.size ≤ k) :
    Par B b { s with msg := { s.msg with f := s.msg.f ++ [p] } } q z lf { V with f := v' } (w2.setCell ⟨b, 17, none⟩ v') ∧ PTn b V { V with f := v' } X w (w2.setCell ⟨b, 17, none⟩ v') := by
  obtain ⟨n1, n2, n3, n4, n5⟩ := h.neB
  have hk2 : w2.heap[b]? = some (.cells (pcells b s q z lf V) 72 (0, 0)) := (hg.block b h.lt (fun e => n3 e.symm)).trans h.blk
  have hm2 : Meth w2 B V.m s.asked := Meth.heap h.meth fun k e => hg.block k (h.meth.lt k e).2 (fun e2 => Meth.ne2 h.flds h.meth (by decide) k e e2.symm)
  have hl2 : w2.ownsRow B 5 1 V.l s.line.length (Lib.byteCells s.line) := own_heap h.line fun k e => hg.block k (h.line.lt k e).2 (fun e2 => own_ne2 h.flds h.line (by decide) k e e2.symm)
  have ht2 : w2.ownsRow B 84 2 V.t s.msg.tr.length (fcells s.msg.tr) := own_heap h.trl fun k e => hg.block k (h.trl.lt k e).2 (fun e2 => h.ft k e2.symm e)
  have hy2 : w2.ownsRow B 5 1 V.y s.body.length (Lib.byteCells s.body) := own_heap h.body fun k e => hg.block k (h.body.lt k e).2 (fun e2 => own_ne2 h.flds h.body (by decide) k e e2.symm)
  have hne : ∀ k, k ≠ b → (w2.setCell ⟨b, 17, none⟩ v').heap[k]? = w2.heap[k]? := fun k hk => Below.heap_setCell _ _ _ _ hk
  have ho2 : w2.ownsRow B 84 2 v' (s.msg.f ++ [p]).length (fcells (s.msg.f ++ [p])) := by
    rw [List.length_append, fcells_app]
    exact ho
  refine ⟨⟨h.hB, ?_, Meth.heap hm2 fun k e => hne k (fun e2 => n1 (e2 ▸ e)), own_heap hl2 fun k e => hne k (fun e2 => n2 (e2 ▸ e)), own_heap ho2 fun k e => hne k (fun e2 => own_ne ho2 hk2 (by decide) (e2 ▸ e)), own_heap ht2 fun k e => hne k (fun e2 => n4 (e2 ▸ e)), own_heap hy2 fun k e => hne k (fun e2 => n5 (e2 ▸ e)), h.lb, ?_, ?_, fun k e => ⟨(h.dlt k e).1, by have := (h.dlt k e).2; have := hg.size; simp; omega⟩, ?_⟩, ⟨hg.os, hg.tape, hg.output, by simpa using hg.size, ?_, ?_⟩⟩
  · rw [heap_setCell_same w2 b 17 _ _ v' hk2]; rfl
  · intro k hk hv
    rcases hst k hk with h1 | h1
    · exact h.ft k h1 hv
    · have := (h.trl.lt k hv).2; omega
  · intro hm
    obtain ⟨bd, d1, d2, d3⟩ := h.dec hm
    refine ⟨bd, d1, d2, d3.same fun k e => (hne k (fun e2 => h.apd k ⟨bd, d2, e⟩ (.inl e2))).trans (hg.block k (h.dlt k ⟨bd, d2, e⟩).2 fun e2 => h.apd k ⟨bd, d2, e⟩ (.inr (.inr (.inr (.inl e2.symm)))))⟩
  · intro k e ho
    rcases ho with e2 | e2 | e2 | e2 | e2 | e2
    · exact h.apd k e (.inl e2)
    · exact h.apd k e (.inr (.inl e2))
    · exact h.apd k e (.inr (.inr (.inl e2)))
    · rcases hst k e2 with h1 | h1
      · exact h.apd k e (.inr (.inr (.inr (.inl h1))))
      · have := (h.dlt k e).2; omega
    · exact h.apd k e (.inr (.inr (.inr (.inr (.inl e2)))))
    · exact h.apd k e (.inr (.inr (.inr (.inr (.inr e2)))))
  · intro k hk hm _
    rw [hne k (fun e => hm (.inl (.inl e)))]
    exact hg.block k hk fun e => hm (.inl (.inr (.inr (.inr (.inl e.symm)))))
  · intro k hk
    rcases hk with (e2 | e2 | e2 | e2 | e2 | e2) | e2
    · exact .inl (.inl (.inl e2))
    · exact .inl (.inl (.inr (.inl e2)))
    · exact .inl (.inl (.inr (.inr (.inl e2))))
    · rcases hst k e2 with h1 | h1
      · exact .inl (.inl (.inr (.inr (.inr (.inl h1)))))
      · exact .inr h1
    · exact .inl (.inl (.inr (.inr (.inr (.inr (.inl e2))))))
    · exact .inl (.inl (.inr (.inr (.inr (.inr (.inr e2))))))
    · exact .inl (.inr e2)

/-- the line begins anew -/
theorem Par.cutLine (h : Par B b s q z lf V w) (a : Addr) (c : Nat) (hv : V.l = .slice (some a) s.line.length c) :
    Par B b { s with line := [] } q z lf { V with l := .slice (some a) 0 c } (w.setCell ⟨b, 11, none⟩ (.slice (some a) 0 c)) ∧ PTn b V { V with l := .slice (some a) 0 c } X w (w.setCell ⟨b, 11, none⟩ (.slice (some a) 0 c)) := by
  obtain ⟨n1, n2, n3, n4, n5⟩ := h.neB
  have ho := own_cut h.line a c hv
  have he : (Value.slice (some a) 0 c).ownBlock = V.l.ownBlock := by rw [hv]; rfl
  have hne : ∀ k, k ≠ b → (w.setCell ⟨b, 11, none⟩ (.slice (some a) 0 c)).heap[k]? = w.heap[k]? := fun k hk => Below.heap_setCell _ _ _ _ hk
  have hOwn : ∀ k, OwnP b { V with l := .slice (some a) 0 c } k → OwnP b V k := by
    intro k hk
    rcases hk with e2 | e2 | e2 | e2 | e2 | e2
    · exact .inl e2
    · exact .inr (.inl e2)
    · exact .inr (.inr (.inl (he ▸ e2)))
    · exact .inr (.inr (.inr (.inl e2)))
    · exact .inr (.inr (.inr (.inr (.inl e2))))
    · exact .inr (.inr (.inr (.inr (.inr e2))))
  refine ⟨⟨h.hB, ?_, Meth.heap h.meth fun k e => hne k (fun e2 => n1 (e2 ▸ e)), own_heap (xs := []) ho fun k e => hne k (fun e2 => own_ne ho h.blk (by decide) (e2 ▸ e)), own_heap h.flds fun k e => hne k (fun e2 => n3 (e2 ▸ e)), own_heap h.trl fun k e => hne k (fun e2 => n4 (e2 ▸ e)), own_heap h.body fun k e => hne k (fun e2 => n5 (e2 ▸ e)), fun k hk => h.lb k (he ▸ hk), h.ft, ?_, fun k e => ⟨(h.dlt k e).1, by have := (h.dlt k e).2; simpa using this⟩, fun k e ho => h.apd k e (hOwn k ho)⟩, ⟨rfl, rfl, rfl, by simp, fun k _ hm _ => hne k (fun e => hm (.inl (.inl e))), fun k hk => ?_⟩⟩
  · rw [heap_setCell_same w b 11 _ _ _ h.blk]; rfl
  · intro hm
    obtain ⟨bd, d1, d2, d3⟩ := h.dec hm
    exact ⟨bd, d1, d2, d3.same fun k e => hne k (fun e2 => h.apd k ⟨bd, d2, e⟩ (.inl e2))⟩
  · rcases hk with hk | hk
    · exact .inl (.inl (hOwn k hk))
    · exact .inl (.inr hk)
end Tk
end Go.Proofs.YtpcdaaijlgilkaaGreatDoor
namespace Go.Proofs.YtpcdaaijlgilkaaGreatDoor
open Go.RowKit
namespace Tk

theorem mstate_eql_func (f : Fn) (x y : Array Value) (w : World) : (binOp .eql 64 (.func f x y) .nilFunc).run Tryz.prog w = .ok (.bool false) w := by
  have h : ∀ d : Nat, (Op.equalIn (d + 1) 64 (.func f x y) .nilFunc).run Tryz.prog w = .ok false w := fun d => by
    simp [Op.equalIn, run_underlying Tryz.underlying64]
  simp only [binOp]
  simp [Op.equal, Op.maxDepth, h 9999]
theorem mstate_eql_nil (w : World) : (binOp .eql 64 .nilFunc .nilFunc).run Tryz.prog w = .ok (.bool true) w := by
  have h : ∀ d : Nat, (Op.equalIn (d + 1) 64 .nilFunc .nilFunc).run Tryz.prog w = .ok true w := fun d => by
    simp [Op.equalIn, run_underlying Tryz.underlying64]
  simp only [binOp]
  simp [Op.equal, Op.maxDepth, h 9999]
theorem mstate_neq_func (f : Fn) (x y : Array Value) (w : World) : (binOp .neq 64 (.func f x y) .nilFunc).run Tryz.prog w = .ok (.bool true) w := by
  have h : ∀ d : Nat, (Op.equalIn (d + 1) 64 (.func f x y) .nilFunc).run Tryz.prog w = .ok false w := fun d => by
    simp [Op.equalIn, run_underlying Tryz.underlying64]
  simp only [binOp]
  simp [Op.equal, Op.maxDepth, h 9999]
theorem mstate_neq_nil (w : World) : (binOp .neq 64 .nilFunc .nilFunc).run Tryz.prog w = .ok (.bool false) w := by
  have h : ∀ d : Nat, (Op.equalIn (d + 1) 64 .nilFunc .nilFunc).run Tryz.prog w = .ok true w := fun d => by
    simp [Op.equalIn, run_underlying Tryz.underlying64]
  simp only [binOp]
  simp [Op.equal, Op.maxDepth, h 9999]
theorem pstV_lt (m : Nat) (h : m < 7) : ∃ F, pstV m = .func (.func F) #[] #[] := by
  match m, h with
  | 0, _ | 1, _ | 2, _ | 3, _ | 4, _ | 5, _ | 6, _ => exact ⟨_, rfl⟩
  | n + 7, h => omega
theorem pstV_7 (m : Nat) (h : 7 ≤ m) : pstV m = .nilFunc := by
  obtain ⟨k, rfl⟩ : ∃ k, m = k + 7 := ⟨m - 7, by omega⟩
  rfl

theorem parInfo : (Tryz.prog.info? 72).map (·.size) = some 24 := by kernel_rfl
variable {B b : Nat} {s : Pr} {q z lf : Nat} {V : PV} {w : World}
set_option maxHeartbeats 1000000 in
set_option maxRecDepth 100000 in
theorem pmade_any (h : Par B b s q z lf V w) :
    Calls Tryz.prog 28 #[ptr b] w fun e w' => e = .returned (.bool true) ∧ w' = w := by
  obtain ⟨j, hj, _⟩ := Option.map_eq_some_iff.1 parInfo
  have c0 : w.cell? ⟨b, 0, none⟩ = some (.pointer (some ⟨b, 0, none⟩)) := h.cell 0 _ rfl
  have hq := run_eql_ptr_same (P := Tryz.prog) w ⟨b, 0, none⟩ Tryz.underlying35 hj
  clear h
  unfold ptr
  go_enter Tryz.func28, Tryz.ntmps28
  go_wp2
  go_ret
  exact ⟨rfl, rfl⟩

set_option maxHeartbeats 1000000 in
set_option maxRecDepth 100000 in
theorem pwaits_any (h : Par B b s q z lf V w) (hq7 : q ≤ 7) :
    Calls Tryz.prog 33 #[ptr b] w fun e w' => e = .returned (.bool (decide (q = 7) && decide (z = 0))) ∧ w' = w := by
  have c7 : w.cell? ⟨b, 7, none⟩ = some (.int .i64 z) := h.cell 7 _ rfl
  have c8 : w.cell? ⟨b, 8, none⟩ = some (pstV q) := h.cell 8 _ rfl
  clear h
  unfold ptr
  by_cases h7 : q = 7
  · have e8 : w.cell? ⟨b, 8, none⟩ = some .nilFunc := by rw [c8, h7]; rfl
    have hR := Lib.hid (show (decide (q = 7) && decide (z = 0)) = decide (z = 0) by rw [h7]; rfl)
    have hst := mstate_eql_nil
    clear c8 h7 hq7
    by_cases hz : z = 0
    · have hz2 : ((z : Int) == 0) = true := by simp [hz]
      have HZ := Lib.hid hz
      clear hz
      go_enter Tryz.func33, Tryz.ntmps33
      go_wp2
      go_ret
      exact ⟨by rw [hR.out, decide_eq_true HZ.out]; rfl, rfl⟩
    · have hz2 : ((z : Int) == 0) = false := by simp [hz]
      have HZ := Lib.hid hz
      clear hz
      go_enter Tryz.func33, Tryz.ntmps33
      go_wp2
      go_ret
      exact ⟨by rw [hR.out, decide_eq_false HZ.out]; rfl, rfl⟩
  · obtain ⟨F, hF⟩ := pstV_lt q (by omega)
    have e8 : w.cell? ⟨b, 8, none⟩ = some (.func (.func F) #[] #[]) := by rw [c8, hF]
    have hR := Lib.hid (show (decide (q = 7) && decide (z = 0)) = false by rw [decide_eq_false h7]; rfl)
    have hst := mstate_eql_func
    clear c8 h7 hq7 hF
    go_enter Tryz.func33, Tryz.ntmps33
    go_wp2
    go_ret
    exact ⟨by rw [hR.out]; rfl, rfl⟩

set_option maxHeartbeats 1000000 in
set_option maxRecDepth 100000 in
theorem pstatus_any (h : Par B b s q z lf V w) :
    Calls Tryz.prog 21 #[ptr b] w fun e w' => e = .returned (.int .i64 z) ∧ w' = w := by
  have HM := Lib.hid (pmade_any h)
  have c7 : w.cell? ⟨b, 7, none⟩ = some (.int .i64 z) := h.cell 7 _ rfl
  clear h
  unfold ptr at *
  go_enter Tryz.func21, Tryz.ntmps21
  go_wp2_with fail
  refine HM.out.mono ?_
  rintro e w' ⟨rfl, rfl⟩
  go_wp2
  go_ret
  exact ⟨rfl, rfl⟩

/-- does it consume further bytes -/
def consP (s : Pr) (q z : Nat) : Bool := decide (q ≠ 7) && decide (z = 0) && (!s.rsp || decide (0 < s.asked.length))
set_option maxHeartbeats 2000000 in
set_option maxRecDepth 100000 in
theorem pconsumes_any (h : Par B b s q z lf V w) (hq7 : q ≤ 7) :
    Calls Tryz.prog 30 #[ptr b] w fun e w' => e = .returned (.bool (consP s q z)) ∧ w' = w := by
  have c7 : w.cell? ⟨b, 7, none⟩ = some (.int .i64 z) := h.cell 7 _ rfl
  have c8 : w.cell? ⟨b, 8, none⟩ = some (pstV q) := h.cell 8 _ rfl
  have c5 : w.cell? ⟨b, 5, none⟩ = some (.bool s.rsp) := h.cell 5 _ rfl
  have c6 : w.cell? ⟨b, 6, none⟩ = some V.m := h.cell 6 _ rfl
  obtain ⟨a, cap, hm⟩ := h.meth.val
  rw [hm] at c6
  clear h hm
  unfold ptr
  by_cases h7 : q = 7
  · have e8 : w.cell? ⟨b, 8, none⟩ = some .nilFunc := by rw [c8, h7]; rfl
    have hR := Lib.hid (show consP s q z = false by unfold consP; rw [h7]; rfl)
    have hst := mstate_neq_nil
    clear c8 h7 hq7
    go_enter Tryz.func30, Tryz.ntmps30
    go_wp2
    go_ret
    exact ⟨by rw [hR.out]; rfl, rfl⟩
  · obtain ⟨F, hF⟩ := pstV_lt q (by omega)
    have e8 : w.cell? ⟨b, 8, none⟩ = some (.func (.func F) #[] #[]) := by rw [c8, hF]
    have hR := Lib.hid (show consP s q z = (decide (z = 0) && (!s.rsp || decide (0 < s.asked.length))) by unfold consP; rw [decide_eq_true h7]; rfl)
    have hst := mstate_neq_func
    clear c8 h7 hq7 hF
    by_cases hz : z = 0
    · have hz2 : ((z : Int) == 0) = true := by simp [hz]
      have hR2 := Lib.hid (show consP s q z = (!s.rsp || decide (0 < s.asked.length)) by rw [hR.out, decide_eq_true hz]; rfl)
      clear hz hR
      cases hr : s.rsp
      · rw [hr] at c5
        have hR3 := Lib.hid (show consP s q z = true by rw [hR2.out, hr]; rfl)
        clear hr hR2
        go_enter Tryz.func30, Tryz.ntmps30
        go_wp2
        go_ret
        exact ⟨by rw [hR3.out]; rfl, rfl⟩
      · rw [hr] at c5
        have hR3 := Lib.hid (show consP s q z = decide (0 < s.asked.length) by rw [hR2.out, hr]; rfl)
        clear hr hR2
        generalize s.asked.length = n at *
        go_enter Tryz.func30, Tryz.ntmps30
        go_wp2
        go_ret
        exact ⟨by rw [hR3.out]; first | rfl | simp, rfl⟩
    · have hz2 : ((z : Int) == 0) = false := by simp [hz]
      have hR2 := Lib.hid (show consP s q z = false by rw [hR.out, decide_eq_false hz]; rfl)
      clear hz hR
      go_enter Tryz.func30, Tryz.ntmps30
      go_wp2
      go_ret
      exact ⟨by rw [hR2.out]; rfl, rfl⟩

set_option maxHeartbeats 1000000 in
set_option maxRecDepth 100000 in
theorem pleft_any (h : Par B b s q z lf V w) (hq7 : q ≤ 7) :
    Calls Tryz.prog 20 #[ptr b] w fun e w' => e = .returned (.int .i64 ((if q = 7 ∧ z = 0 then 0 else lf : Nat) : Int)) ∧ w' = w := by
  have HM := Lib.hid (pmade_any h)
  have HW := Lib.hid (pwaits_any h hq7)
  have c9 : w.cell? ⟨b, 9, none⟩ = some (.int .i64 lf) := h.cell 9 _ rfl
  clear h hq7
  by_cases hc : q = 7 ∧ z = 0
  · rw [if_pos hc]
    have hd : (decide (q = 7) && decide (z = 0)) = true := by simp [hc.1, hc.2]
    rw [hd] at HW
    clear hd hc
    unfold ptr at *
    go_enter Tryz.func20, Tryz.ntmps20
    go_wp2_with fail
    refine HM.out.mono ?_
    rintro e w' ⟨rfl, rfl⟩
    go_wp2_with fail
    refine HW.out.mono ?_
    rintro e w' ⟨rfl, rfl⟩
    go_wp2
    go_ret
    exact ⟨rfl, rfl⟩
  · rw [if_neg hc]
    have hd : (decide (q = 7) && decide (z = 0)) = false := by
      rw [Bool.and_eq_false_iff]
      by_cases h7 : q = 7
      · right; simp; exact fun h0 => hc ⟨h7, h0⟩
      · left; simp [h7]
    rw [hd] at HW
    clear hd hc
    unfold ptr at *
    go_enter Tryz.func20, Tryz.ntmps20
    go_wp2_with fail
    refine HM.out.mono ?_
    rintro e w' ⟨rfl, rfl⟩
    go_wp2_with fail
    refine HW.out.mono ?_
    rintro e w' ⟨rfl, rfl⟩
    go_wp2
    go_ret
    exact ⟨rfl, rfl⟩

/-- what was fed and not eaten yet -/
def Inp (g : Nat) (l : Bs) (w : World) : Prop := w.heap[g]? = some (.cells #[.string (mkS l)] 60 (0, 0))
theorem Inp.cell {g : Nat} {l : Bs} {w : World} (h : Inp g l w) : w.cell? ⟨g, 0, none⟩ = some (.string (mkS l)) := by rw [Lib.cell_of_heap h]; rfl
theorem Inp.frz {g : Nat} {l : Bs} {w : World} (h : Inp g l w) : w.frozen? ⟨g, 0, none⟩ = false := Lib.frozen_of_heap h 0
theorem Inp.lt {g : Nat} {l : Bs} {w : World} (h : Inp g l w) : g < w.heap.size := (Array.getElem?_eq_some_iff.1 h).1
theorem Inp.put {g : Nat} {l : Bs} {w : World} (h : Inp g l w) (l' : Bs) : Inp g l' (w.setCell ⟨g, 0, none⟩ (.string (mkS l'))) := by
  unfold Inp; rw [heap_setCell_same w g 0 _ _ _ h]; rfl
set_option maxHeartbeats 1000000 in
set_option maxRecDepth 100000 in
theorem take_any (g : Nat) (l : Bs) (n : Nat) (w : World) (h : Inp g l w) :
    Calls Tryz.prog 60 #[ptr g, .int .i64 n] w fun e w' => e = .returned (.string (mkS (l.take n))) ∧ w' = w.setCell ⟨g, 0, none⟩ (.string (mkS (l.drop n))) := by
  have c0 := h.cell
  have f0 := h.frz
  have hz := size_mkS l
  obtain ⟨k, hk⟩ : ∃ k, k = min n l.length := ⟨_, rfl⟩
  have h1 : (mkS l).extract 0 k = mkS (l.take n) := by
    rw [extract_mkS, bs_mkS, hk]
    congr 1
    simp only [List.drop_zero, Nat.sub_zero]
    rw [← List.take_eq_take_min]
  have h2 : (mkS l).extract k l.length = mkS (l.drop n) := by
    rw [extract_mkS, bs_mkS, hk]
    congr 1
    by_cases hn : n ≤ l.length
    · rw [Nat.min_eq_left hn, List.take_of_length_le (by simp)]
    · rw [Nat.min_eq_right (by omega), List.drop_of_length_le (Nat.le_refl _), List.drop_of_length_le (by omega)]; simp
  have H1 := Lib.hid h1
  have H2 := Lib.hid h2
  have hmin : min (n : Int) (l.length : Int) = (k : Int) := by omega
  have hkl : k ≤ l.length := by omega
  have i0 : (0 : Int) ≤ (k : Int) := by omega
  have i1 : (k : Int) ≤ (l.length : Int) := by omega
  clear h h1 h2 hk
  unfold ptr
  go_enter Tryz.func60, Tryz.ntmps60
  go_wp2
  go_ret
  refine ⟨?_, ?_⟩
  · rw [← H1.out]; rfl
  · rw [← H2.out]; try rfl
end Tk
end Go.Proofs.YtpcdaaijlgilkaaGreatDoor
namespace Go.Proofs.YtpcdaaijlgilkaaGreatDoor
open Go.RowKit
namespace Tk

variable {B b : Nat} {s : Pr} {q z lf : Nat} {V : PV} {X : Nat → Prop} {w : World}
def pvNil (m : Value) : PV := ⟨m, .slice none 0 0, .slice none 0 0, .slice none 0 0, .slice none 0 0, .pointer none, none, .slice none 0 0, .slice none 0 0, .slice none 0 0⟩
def zeroP (s : Pr) : Pr := { L := s.L, H := s.H, C := s.C, M := s.M, rsp := s.rsp, asked := s.asked, bad := s.bad, mode := if s.rsp then 2 else 0 }
theorem Par.renew (h : Par B b s q z lf V w) {w' : World} (hk : ∀ k, k ≠ b → w'.heap[k]? = w.heap[k]?) (hs : w'.heap.size = w.heap.size) (ho : w'.os = w.os ∧ w'.tape = w.tape ∧ w'.output = w.output)
    (hb : w'.heap[b]? = some (.cells (pcells b (zeroP s) (if s.rsp then 2 else 0) z 0 (pvNil V.m)) 72 (0, 0))) :
    Par B b (zeroP s) (if s.rsp then 2 else 0) z 0 (pvNil V.m) w' ∧ PTn b V (pvNil V.m) X w w' := by
  obtain ⟨n1, n2, n3, n4, n5⟩ := h.neB
  refine ⟨⟨h.hB, hb, Meth.heap h.meth fun k e => hk k (fun e2 => n1 (e2 ▸ e)), World.ownsRow_nil _ _ _ _, World.ownsRow_nil _ _ _ _, World.ownsRow_nil _ _ _ _, World.ownsRow_nil _ _ _ _, (fun k hk => by cases hk), (fun k hk => by cases hk), ?_, ?_, ?_⟩, ⟨ho.1, ho.2.1, ho.2.2, by omega, fun k _ hm _ => hk k (fun e => hm (.inl (.inl e))), ?_⟩⟩
  · intro hm
    unfold zeroP at hm
    cases hr : s.rsp <;> rw [hr] at hm <;> simp at hm
  · rintro k ⟨bd, hd, -⟩; cases hd
  · rintro k ⟨bd, hd, -⟩; cases hd
  · rintro k ((e | e | e | e | e | e) | ⟨bd, hd, -⟩)
    · exact .inl (.inl (.inl e))
    · exact .inl (.inl (.inr (.inl e)))
    all_goals first | (cases e; done) | (cases hd; done)

def putAll (cs : Array Value) (o : Nat) (l : List Value) : Array Value := (cs.toList.take o ++ l ++ cs.toList.drop (o + l.length)).toArray
theorem setCells_other (b : Nat) : ∀ (l : List Value) (o : Nat) (w : World) (k : Nat), k ≠ b → (w.setCells b o l).heap[k]? = w.heap[k]?
  | [], _, _, _, _ => rfl
  | _ :: t, o, _, k, hk => (setCells_other b t (o + 1) _ k hk).trans (Below.heap_setCell _ _ _ _ hk)
theorem setCells_rest (b : Nat) : ∀ (l : List Value) (o : Nat) (w : World), (w.setCells b o l).heap.size = w.heap.size ∧ (w.setCells b o l).os = w.os ∧ (w.setCells b o l).tape = w.tape ∧ (w.setCells b o l).output = w.output
  | [], _, _ => ⟨rfl, rfl, rfl, rfl⟩
  | v :: t, o, w => by
    obtain ⟨h1, h2, h3, h4⟩ := setCells_rest b t (o + 1) (w.setCell ⟨b, o, none⟩ v)
    exact ⟨h1.trans (by simp), h2, h3, h4⟩
theorem setCells_blk (b : Nat) (T : TypeId) : ∀ (l : List Value) (o : Nat) (w : World) (cs : Array Value), w.heap[b]? = some (.cells cs T (0, 0)) → o + l.length ≤ cs.size → (w.setCells b o l).heap[b]? = some (.cells (putAll cs o l) T (0, 0))
  | [], o, w, cs, h, _ => by
    show w.heap[b]? = _
    rw [h]; unfold putAll
    simp
  | v :: t, o, w, cs, h, hl => by
    simp only [List.length_cons] at hl
    have ih := setCells_blk b T t (o + 1) _ _ (heap_setCell_same w b o _ _ v h) (by simp; omega)
    refine ih.trans ?_
    have e := list_seg_step cs.toList o v t (by simpa using hl)
    unfold putAll
    rw [Array.toList_setIfInBounds, e]
    simp only [List.length_cons]
theorem there_of_blk {w : World} {b : Nat} {cs : Array Value} {T : TypeId} (h : w.heap[b]? = some (.cells cs T (0, 0))) (o n : Nat) (hn : o + n ≤ cs.size) : w.there b o n := fun j hj => by
  refine ⟨?_, Lib.frozen_of_heap h _⟩
  rw [Lib.cell_of_heap h]
  simp only [Array.getElem?_eq_getElem (show o + j < cs.size by omega)]
  rfl
theorem wpList_store_to {P : Program} {ops : Array Oper} {rest : List Oper} {op : Oper} {a : Act} {w W' : World} {Q : Exit → Act → World → Prop} (hgd : op.guard = none) (ty : TypeId) (x y : Operand) (ho : op.op = .store ty x y)
    (b o : Nat) (cells : Array Value) (hx : a.eval x = .pointer (some ⟨b, o, none⟩)) (hy : a.eval y = .agg cells)
    (ht : w.there b o cells.size) (hi : (P.info? ty).map (·.size) = some cells.size) (h1 : cells.all (·.oneCell') = true) (hW : w.setCells b o cells.toList = W')
    (h : wpList P ops Q rest (a.put op.dst undef) W') : wpList P ops Q (op :: rest) a w :=
  wpList_store_mid hgd ty x y ho b o cells hx hy ht hi h1 (hW ▸ h)
/-- the cells of a part that begins anew -/
def zeroL (q : Nat) : List Value := [pstV q, .int .i64 0, .int .i64 0, .slice none 0 0, .string ⟨#[]⟩, .string ⟨#[]⟩, .int .i64 0, .string ⟨#[]⟩, .int .i64 0, .slice none 0 0, .string ⟨#[]⟩, .slice none 0 0, .int .i64 0, .int .i64 0, .slice none 0 0, .pointer none]

set_option maxHeartbeats 4000000 in
set_option maxRecDepth 100000 in
theorem pbegin_any (h : Par B b s q z lf V w) :
    Calls Tryz.prog 34 #[ptr b] w fun e w' => e = .returned (.tuple #[]) ∧ Par B b (zeroP s) (if s.rsp then 2 else 0) z 0 (pvNil V.m) w' ∧ PTn b V (pvNil V.m) X w w' := by
  have hblk := h.blk
  have ht := there_of_blk hblk 8 16 (by show 24 ≤ 24; omega)
  have hB2 := setCells_blk b 72 (zeroL 0) 8 w _ hblk (by show 24 ≤ 24; omega)
  have c5 : (w.setCells b 8 (zeroL 0)).cell? ⟨b, 5, none⟩ = some (.bool s.rsp) := by rw [Lib.cell_of_heap hB2]; rfl
  have c8 : (w.setCells b 8 (zeroL 0)).cell? ⟨b, 8, none⟩ = some (pstV 0) := by rw [Lib.cell_of_heap hB2]; rfl
  have f8 : (w.setCells b 8 (zeroL 0)).frozen? ⟨b, 8, none⟩ = false := Lib.frozen_of_heap hB2 8
  have hq := setCells_rest b (zeroL 0) 8 w
  have hoth := setCells_other b (zeroL 0) 8 w
  have HQ := Lib.hid hq
  have HO := Lib.hid hoth
  have HB2 := Lib.hid hB2
  have H := Lib.hid h
  have HT := Lib.hid ht
  clear h hq hoth hB2 hblk ht
  generalize hW : w.setCells b 8 (zeroL 0) = W1 at *
  have HW := Lib.hid hW
  unfold ptr
  unfold pstV at c8
  clear hW
  cases hr : s.rsp
  · rw [hr] at c5
    have HR := Lib.hid hr
    clear hr
    go_enter Tryz.func34, Tryz.ntmps34
    go_wp2_with (refine wpList_store_to rfl 70 _ _ rfl b 8 (zeroL 0).toArray rfl rfl HT.out (by kernel_rfl) (all_oneCell_toArray (List.all_eq_true.1 (show (zeroL 0).all (·.oneCell') = true from rfl))) HW.out ?_)
    refine bodyPost_end (v := .tuple #[]) ?_ rfl ?_
    · simp [results, Tryz.results34, go_sem]
    · show _ ∧ _
      have hp := fun h4 => H.out.renew (X := X) (w' := W1) HO.out HQ.out.1 HQ.out.2 h4
      rw [HR.out] at hp
      simp only [Bool.false_eq_true, if_false] at hp
      refine ⟨rfl, hp (HB2.out.trans ?_)⟩
      unfold pcells zeroP pvNil
      rw [HR.out]; rfl
  · rw [hr] at c5
    have HR := Lib.hid hr
    clear hr
    go_enter Tryz.func34, Tryz.ntmps34
    go_wp2_with (refine wpList_store_to rfl 70 _ _ rfl b 8 (zeroL 0).toArray rfl rfl HT.out (by kernel_rfl) (all_oneCell_toArray (List.all_eq_true.1 (show (zeroL 0).all (·.oneCell') = true from rfl))) HW.out ?_)
    refine bodyPost_end (v := .tuple #[]) ?_ rfl ?_
    · simp [results, Tryz.results34, go_sem]
    · show _ ∧ _
      have hp := fun h1 h2 h3 h4 => H.out.renew (X := X) (w' := W1.setCell ⟨b, 8, none⟩ (.func (.func 41) #[] #[])) h1 h2 h3 h4
      rw [HR.out] at hp
      simp only [if_true] at hp
      refine ⟨rfl, hp (fun k hk => (Below.heap_setCell _ _ _ _ hk).trans (HO.out k hk)) (by simp; exact HQ.out.1) HQ.out.2 ((heap_setCell_same _ b 8 _ _ _ HB2.out).trans ?_)⟩
      unfold pcells zeroP pvNil
      rw [HR.out]; rfl
end Tk
end Go.Proofs.YtpcdaaijlgilkaaGreatDoor
namespace Go.Proofs.YtpcdaaijlgilkaaGreatDoor
open Go.RowKit
namespace Tk

variable {B b : Nat} {s : Pr} {q z lf : Nat} {V : PV} {X : Nat → Prop} {w : World}
def flV (n : Nat) : Value := .iface 76 (.int .i64 n)
def malP : List PanicEntry := [{ v := .iface 62 (.agg #[]), recovered := false }]
/-- how add ends -/
def addPE (s : Pr) (c : UInt8) : Ending := if addQ s c = 0 then .returned (.tuple #[.bool false, .nilIface]) else if addQ s c = 1 then .returned (.tuple #[.bool true, .nilIface]) else if addQ s c = 2 then .returned (.tuple #[.bool false, flV 431]) else .panicked malP
theorem addPE_by (s : Pr) (c : UInt8) (N : Nat) (hN : N = s.line.length) (r : Bool) (hr : cr s.line = r) (t : Bool) (ht : decide (c = 10) = t) :
    addPE s c = if r && t then (if s.H < s.head + 1 then .returned (.tuple #[.bool false, flV 431]) else .returned (.tuple #[.bool true, .nilIface])) else if s.L ≤ N + 1 then .returned (.tuple #[.bool false, flV 431]) else if r != t then .panicked malP else if s.H < s.head + 1 then .returned (.tuple #[.bool false, flV 431]) else .returned (.tuple #[.bool false, .nilIface]) := by
  unfold addPE addQ
  rw [hr, ht, ← hN]
  by_cases hl : s.L ≤ N + 1 <;> by_cases hh : s.H < s.head + 1 <;> cases r <;> cases t <;> simp [hl, hh]

set_option maxHeartbeats 16000000 in
set_option maxRecDepth 100000 in
theorem padd_any (c : UInt8) (h : Par B b s q z lf V w) (hz : s.line.length + 1 ≤ 1048576) (hhd : s.head + 1 ≤ 1048576) :
    Calls Tryz.prog 59 #[ptr b, .int .u8 c.toNat] w fun e w' => e = addPE s c ∧ PTo B b (s.put c) q z lf V X w w' := by
  obtain ⟨i0, hi, hz0, hz1, hz2⟩ := info_parts byteInf
  obtain ⟨a, cap, hv⟩ : ∃ a cap, V.l = .slice a s.line.length cap := by
    rcases h.line.2 with ⟨hv, h0⟩ | ⟨g, cap, cur, hv, _⟩
    · exact ⟨none, 0, by rw [hv, h0]⟩
    · exact ⟨_, _, hv⟩
  obtain ⟨N, hN⟩ : ∃ N, N = s.line.length := ⟨_, rfl⟩
  rw [← hN] at hv hz
  have HN := Lib.hid hN
  have c11 : w.cell? ⟨b, 11, none⟩ = some (.slice a N cap) := by rw [← hv]; exact h.cell 11 _ rfl
  have HV := Lib.hid hv
  have H := Lib.hid h
  have E0 := Lib.hid (addPE_by s c N hN)
  have hsh : (N = 0 ∧ cr s.line = false) ∨ ∃ (x : UInt8) (g : Nat), 0 < N ∧ a = some ⟨g, 0, none⟩ ∧ w.cell? ⟨g, N - 1, none⟩ = some (.int .u8 x.toNat) ∧ cr s.line = decide (x = 13) := by
    rcases List.eq_nil_or_concat s.line with e | ⟨p, x, e⟩
    · exact .inl ⟨by rw [hN, e]; rfl, by rw [e]; rfl⟩
    · right
      rw [List.concat_eq_append] at e
      rcases h.line.2 with ⟨_, h0⟩ | ⟨g, cap', cur, hv', _⟩
      · rw [e] at h0; simp at h0
      · have hv2 := hv.symm.trans hv'
        injection hv2 with e1 e2 e3
        refine ⟨x, g, by rw [hN, e]; simp, e1, ?_, by rw [e, cr_snoc]⟩
        have := h.line.cells (g := g) (by rw [hv, e1]; rfl) p.length (.int .u8 x.toNat) (by rw [e]; exact byte_at p x)
        rw [Go.WideShapes.add_plain, Nat.zero_add] at this
        rw [show N - 1 = p.length by rw [hN, e]; simp]
        exact this
  have hhi : (s.head : Int) + 1 ≤ 1048576 := by omega
  clear h hN hv
  have hct := u8_dec c 10 (by decide)
  rcases hsh with ⟨rfl, hr⟩ | ⟨x, g, hn, rfl, hx, hr⟩
  · have hd0 : decide ((0 : Int) < ((0 : Nat) : Int)) = false := by decide
    have hd1 : ¬ (0 : Int) < ((0 : Nat) : Int) := by decide
    cases hc10 : ((c.toNat : Int) == 10)
    · have HE := Lib.hid (E0.out _ hr _ (hct.symm.trans hc10))
      clear hr E0 hct 
      unfold ptr
      go_enter Tryz.func59, Tryz.ntmps59
      go_wp2_with fail
      go_quiet (fail)
      have H1 := Lib.hid (H.out.draws nq)
      have T1 := Lib.hid (PTn.draws (b := b) (V := V) (X := X) (w := w) nq)
      have hw0 : Below (w.drewN nq).heap.size (w.drewN nq) ((w.drewN nq).alloc (.cells #[.int .u8 c.toNat] 5)) := (Below.refl _ _).alloc (Nat.le_refl _) _
      have H0 := Lib.hid (H1.out.below hw0)
      have T0 := Lib.hid (T1.out.trans (PTn.of hw0))
      have hBs : B ≤ ((w.drewN nq).alloc (.cells #[.int .u8 c.toNat] 5)).heap.size := by have := H0.out.hB; have := H0.out.lt; omega
      have hnew : ((w.drewN nq).alloc (.cells #[.int .u8 c.toNat] 5)).cell? ⟨(w.drewN nq).heap.size, 0, none⟩ = some (.int .u8 c.toNat) := by rw [Lib.cell_of_heap (heap_alloc_last _ _)]; rfl
      have d11 : (w.drewN nq).cell? ⟨b, 11, none⟩ = some (.slice a 0 cap) := by rw [← HV.out]; exact H1.out.cell 11 _ rfl
      clear c11 hw0 hd0 hd1
      generalize w.drewN nq = w1 at *
      have HO := Lib.hid (show (w1.alloc (.cells #[.int .u8 c.toNat] 5)).ownsRow B 5 1 (.slice a 0 cap) 0 (Lib.byteCells s.line) by have := H0.out.line; rw [HV.out, ← show 0 = s.line.length from HN.out] at this; exact this)
      go_wp2_with (at_builtin; refine append_stay (by rfl) _ _ 65 rfl B 5 i0 (.int .u8 0) 1 1 Tryz.underlying65 hi hz0 hz1 hz2 rfl (by decide) _ _ _ rfl HO.out ⟨w1.heap.size, 0, none⟩ 1 1 [.int .u8 c.toNat] rfl rfl ?c1 ?c2 ?c3 ?c4 hBs ?_)
      case c1 =>
        intro j u hj
        match j, hj with
        | 0, hj => simp at hj; subst hj; exact hnew
      case c2 => intro u hu; simp at hu; subst hu; rfl
      case c3 => unfold maxLen; omega
      case c4 => omega
      intro v' w2 ho hg hst
      obtain ⟨g2, cap2, rfl⟩ : ∃ g cap, v' = .slice (some ⟨g, 0, none⟩) (0 + 1) cap := by
        rcases ho.2 with ⟨_, h0⟩ | ⟨g, cap, cur, hv, _⟩
        · omega
        · exact ⟨g, cap, hv⟩
      obtain ⟨hd, ht⟩ := H0.out.putLine (X := X) c (show w2.ownsRow B 5 1 (.slice (some ⟨g2, 0, none⟩) (0 + 1) cap2) (s.line.length + 1) (Lib.byteCells s.line ++ [.int .u8 c.toNat]) by rw [← show 0 = s.line.length from HN.out]; exact ho) (by rw [HV.out]; exact hg) (by rw [HV.out]; exact hst)
      have hk2 : w2.heap[b]? = some (.cells (pcells b s q z lf V) 72 (0, 0)) := (hg.block b H0.out.lt (fun e => H0.out.neB.2.1 (by rw [HV.out]; exact e.symm))).trans H0.out.blk
      have k11 : w2.cell? ⟨b, 11, none⟩ = some (.slice a 0 cap) := by rw [← HV.out, Lib.cell_of_heap hk2]; rfl
      have f11 : w2.frozen? ⟨b, 11, none⟩ = false := Lib.frozen_of_heap hk2 11
      have k10 : w2.cell? ⟨b, 10, none⟩ = some (.int .i64 s.head) := by rw [Lib.cell_of_heap hk2]; rfl
      have f10 : w2.frozen? ⟨b, 10, none⟩ = false := Lib.frozen_of_heap hk2 10
      have hd3 := hd.set 10 (.int .i64 ((s.head : Int) + 1)) (s.put c) q z lf rfl rfl rfl rfl rfl rfl (fun e => ⟨e, rfl⟩)
      have ht3 := (T0.out.trans ht).trans (PTn.set (X := X) 10 (.int .i64 ((s.head : Int) + 1)))
      have z11 : ((w2.setCell ⟨b, 11, none⟩ (.slice (some ⟨g2, 0, none⟩) 1 cap2)).setCell ⟨b, 10, none⟩ (.int .i64 ((s.head : Int) + 1))).cell? ⟨b, 11, none⟩ = some (.slice (some ⟨g2, 0, none⟩) 1 cap2) := hd3.cell 11 _ rfl
      have z1 : ((w2.setCell ⟨b, 11, none⟩ (.slice (some ⟨g2, 0, none⟩) 1 cap2)).setCell ⟨b, 10, none⟩ (.int .i64 ((s.head : Int) + 1))).cell? ⟨b, 1, none⟩ = some (.int .i64 s.L) := hd3.cell 1 _ rfl
      have z10 : ((w2.setCell ⟨b, 11, none⟩ (.slice (some ⟨g2, 0, none⟩) 1 cap2)).setCell ⟨b, 10, none⟩ (.int .i64 ((s.head : Int) + 1))).cell? ⟨b, 10, none⟩ = some (.int .i64 ((s.head : Int) + 1)) := hd3.cell 10 _ rfl
      have z2 : ((w2.setCell ⟨b, 11, none⟩ (.slice (some ⟨g2, 0, none⟩) 1 cap2)).setCell ⟨b, 10, none⟩ (.int .i64 ((s.head : Int) + 1))).cell? ⟨b, 2, none⟩ = some (.int .i64 s.H) := hd3.cell 2 _ rfl
      have HR := Lib.hid (show PTo B b (s.put c) q z lf V X w ((w2.setCell ⟨b, 11, none⟩ (.slice (some ⟨g2, 0, none⟩) 1 cap2)).setCell ⟨b, 10, none⟩ (.int .i64 ((s.head : Int) + 1))) from ⟨_, hd3, ht3⟩)
      clear hd ht ho hg hst hk2 hnew d11 T1 T0 H0 H1 hd3 ht3
      go_upto_region 4 with (fail)
      generalize (w2.setCell ⟨b, 11, none⟩ (.slice (some ⟨g2, 0, none⟩) 1 cap2)).setCell ⟨b, 10, none⟩ (.int .i64 ((s.head : Int) + 1)) = w3 at *
      clear k11 f11 k10 f10 hhi hhd hz hi hz0 hz1 hz2 hBs HO
      have hnr : decide ((!false) = true) = true := rfl
      have EL0 : addPE s c = if s.L ≤ 0 + 1 then .returned (.tuple #[.bool false, flV 431]) else if s.H < s.head + 1 then .returned (.tuple #[.bool false, flV 431]) else .returned (.tuple #[.bool false, .nilIface]) := HE.out
      by_cases hl : s.L ≤ 0 + 1
      · rw [if_pos hl] at EL0
        have HE2 := Lib.hid EL0
        have hl2 : (s.L : Int) ≤ (0 : Nat) + 1 := by omega
        clear EL0 hl
        go_wp2_with fail
        go_quiet (fail)
        go_wp2_with fail
        go_ret2
        obtain ⟨V', hd, ht⟩ := HR.out
        exact ⟨by rw [HE2.out]; rfl, V', by first | exact hd.draws _ | exact (hd.draws _).draws _, by first | exact ht.trans (PTn.draws _) | exact (ht.trans (PTn.draws _)).trans (PTn.draws _)⟩
      · rw [if_neg hl] at EL0
        have hl2 : ¬ (s.L : Int) ≤ (0 : Nat) + 1 := by omega
        have EL := EL0
        clear EL0 hl
        by_cases hh : s.H < s.head + 1
        · rw [if_pos hh] at EL
          have HE2 := Lib.hid EL
          have hh2 : (s.H : Int) < (s.head : Int) + 1 := by omega
          clear EL hh
          go_wp2_with fail
          go_quiet (fail)
          go_wp2_with fail
          go_quiet (fail)
          go_wp2_with fail
          go_ret2
          obtain ⟨V', hd, ht⟩ := HR.out
          exact ⟨by rw [HE2.out]; rfl, V', by first | exact hd.draws _ | exact (hd.draws _).draws _, by first | exact ht.trans (PTn.draws _) | exact (ht.trans (PTn.draws _)).trans (PTn.draws _)⟩
        · rw [if_neg hh] at EL
          have HE2 := Lib.hid EL
          have hh2 : ¬ (s.H : Int) < (s.head : Int) + 1 := by omega
          clear EL hh
          go_wp2_with fail
          go_quiet (fail)
          go_wp2_with fail
          go_quiet (fail)
          go_wp2_with fail
          go_ret2
          obtain ⟨V', hd, ht⟩ := HR.out
          exact ⟨by rw [HE2.out]; rfl, V', by first | exact hd.draws _ | exact (hd.draws _).draws _, by first | exact ht.trans (PTn.draws _) | exact (ht.trans (PTn.draws _)).trans (PTn.draws _)⟩
    · have HE := Lib.hid (E0.out _ hr _ (hct.symm.trans hc10))
      clear hr E0 hct 
      unfold ptr
      go_enter Tryz.func59, Tryz.ntmps59
      go_wp2_with fail
      go_quiet (fail)
      have H1 := Lib.hid (H.out.draws nq)
      have T1 := Lib.hid (PTn.draws (b := b) (V := V) (X := X) (w := w) nq)
      have hw0 : Below (w.drewN nq).heap.size (w.drewN nq) ((w.drewN nq).alloc (.cells #[.int .u8 c.toNat] 5)) := (Below.refl _ _).alloc (Nat.le_refl _) _
      have H0 := Lib.hid (H1.out.below hw0)
      have T0 := Lib.hid (T1.out.trans (PTn.of hw0))
      have hBs : B ≤ ((w.drewN nq).alloc (.cells #[.int .u8 c.toNat] 5)).heap.size := by have := H0.out.hB; have := H0.out.lt; omega
      have hnew : ((w.drewN nq).alloc (.cells #[.int .u8 c.toNat] 5)).cell? ⟨(w.drewN nq).heap.size, 0, none⟩ = some (.int .u8 c.toNat) := by rw [Lib.cell_of_heap (heap_alloc_last _ _)]; rfl
      have d11 : (w.drewN nq).cell? ⟨b, 11, none⟩ = some (.slice a 0 cap) := by rw [← HV.out]; exact H1.out.cell 11 _ rfl
      clear c11 hw0 hd0 hd1
      generalize w.drewN nq = w1 at *
      have HO := Lib.hid (show (w1.alloc (.cells #[.int .u8 c.toNat] 5)).ownsRow B 5 1 (.slice a 0 cap) 0 (Lib.byteCells s.line) by have := H0.out.line; rw [HV.out, ← show 0 = s.line.length from HN.out] at this; exact this)
      go_wp2_with (at_builtin; refine append_stay (by rfl) _ _ 65 rfl B 5 i0 (.int .u8 0) 1 1 Tryz.underlying65 hi hz0 hz1 hz2 rfl (by decide) _ _ _ rfl HO.out ⟨w1.heap.size, 0, none⟩ 1 1 [.int .u8 c.toNat] rfl rfl ?c1 ?c2 ?c3 ?c4 hBs ?_)
      case c1 =>
        intro j u hj
        match j, hj with
        | 0, hj => simp at hj; subst hj; exact hnew
      case c2 => intro u hu; simp at hu; subst hu; rfl
      case c3 => unfold maxLen; omega
      case c4 => omega
      intro v' w2 ho hg hst
      obtain ⟨g2, cap2, rfl⟩ : ∃ g cap, v' = .slice (some ⟨g, 0, none⟩) (0 + 1) cap := by
        rcases ho.2 with ⟨_, h0⟩ | ⟨g, cap, cur, hv, _⟩
        · omega
        · exact ⟨g, cap, hv⟩
      obtain ⟨hd, ht⟩ := H0.out.putLine (X := X) c (show w2.ownsRow B 5 1 (.slice (some ⟨g2, 0, none⟩) (0 + 1) cap2) (s.line.length + 1) (Lib.byteCells s.line ++ [.int .u8 c.toNat]) by rw [← show 0 = s.line.length from HN.out]; exact ho) (by rw [HV.out]; exact hg) (by rw [HV.out]; exact hst)
      have hk2 : w2.heap[b]? = some (.cells (pcells b s q z lf V) 72 (0, 0)) := (hg.block b H0.out.lt (fun e => H0.out.neB.2.1 (by rw [HV.out]; exact e.symm))).trans H0.out.blk
      have k11 : w2.cell? ⟨b, 11, none⟩ = some (.slice a 0 cap) := by rw [← HV.out, Lib.cell_of_heap hk2]; rfl
      have f11 : w2.frozen? ⟨b, 11, none⟩ = false := Lib.frozen_of_heap hk2 11
      have k10 : w2.cell? ⟨b, 10, none⟩ = some (.int .i64 s.head) := by rw [Lib.cell_of_heap hk2]; rfl
      have f10 : w2.frozen? ⟨b, 10, none⟩ = false := Lib.frozen_of_heap hk2 10
      have hd3 := hd.set 10 (.int .i64 ((s.head : Int) + 1)) (s.put c) q z lf rfl rfl rfl rfl rfl rfl (fun e => ⟨e, rfl⟩)
      have ht3 := (T0.out.trans ht).trans (PTn.set (X := X) 10 (.int .i64 ((s.head : Int) + 1)))
      have z11 : ((w2.setCell ⟨b, 11, none⟩ (.slice (some ⟨g2, 0, none⟩) 1 cap2)).setCell ⟨b, 10, none⟩ (.int .i64 ((s.head : Int) + 1))).cell? ⟨b, 11, none⟩ = some (.slice (some ⟨g2, 0, none⟩) 1 cap2) := hd3.cell 11 _ rfl
      have z1 : ((w2.setCell ⟨b, 11, none⟩ (.slice (some ⟨g2, 0, none⟩) 1 cap2)).setCell ⟨b, 10, none⟩ (.int .i64 ((s.head : Int) + 1))).cell? ⟨b, 1, none⟩ = some (.int .i64 s.L) := hd3.cell 1 _ rfl
      have z10 : ((w2.setCell ⟨b, 11, none⟩ (.slice (some ⟨g2, 0, none⟩) 1 cap2)).setCell ⟨b, 10, none⟩ (.int .i64 ((s.head : Int) + 1))).cell? ⟨b, 10, none⟩ = some (.int .i64 ((s.head : Int) + 1)) := hd3.cell 10 _ rfl
      have z2 : ((w2.setCell ⟨b, 11, none⟩ (.slice (some ⟨g2, 0, none⟩) 1 cap2)).setCell ⟨b, 10, none⟩ (.int .i64 ((s.head : Int) + 1))).cell? ⟨b, 2, none⟩ = some (.int .i64 s.H) := hd3.cell 2 _ rfl
      have HR := Lib.hid (show PTo B b (s.put c) q z lf V X w ((w2.setCell ⟨b, 11, none⟩ (.slice (some ⟨g2, 0, none⟩) 1 cap2)).setCell ⟨b, 10, none⟩ (.int .i64 ((s.head : Int) + 1))) from ⟨_, hd3, ht3⟩)
      clear hd ht ho hg hst hk2 hnew d11 T1 T0 H0 H1 hd3 ht3
      go_upto_region 4 with (fail)
      generalize (w2.setCell ⟨b, 11, none⟩ (.slice (some ⟨g2, 0, none⟩) 1 cap2)).setCell ⟨b, 10, none⟩ (.int .i64 ((s.head : Int) + 1)) = w3 at *
      clear k11 f11 k10 f10 hhi hhd hz hi hz0 hz1 hz2 hBs HO
      have hnr : decide ((!false) = true) = true := rfl
      have EL0 : addPE s c = if s.L ≤ 0 + 1 then .returned (.tuple #[.bool false, flV 431]) else .panicked malP := HE.out
      by_cases hl : s.L ≤ 0 + 1
      · rw [if_pos hl] at EL0
        have HE2 := Lib.hid EL0
        have hl2 : (s.L : Int) ≤ (0 : Nat) + 1 := by omega
        clear EL0 hl
        go_wp2_with fail
        go_quiet (fail)
        go_wp2_with fail
        go_ret2
        obtain ⟨V', hd, ht⟩ := HR.out
        exact ⟨by rw [HE2.out]; rfl, V', by first | exact hd.draws _ | exact (hd.draws _).draws _, by first | exact ht.trans (PTn.draws _) | exact (ht.trans (PTn.draws _)).trans (PTn.draws _)⟩
      · rw [if_neg hl] at EL0
        have hl2 : ¬ (s.L : Int) ≤ (0 : Nat) + 1 := by omega
        have HE2 := Lib.hid EL0
        clear EL0 hl
        go_wp2_with fail
        go_quiet (fail)
        go_wp2_with fail
        obtain ⟨V', hd, ht⟩ := HR.out
        exact ⟨rfl, by rw [HE2.out]; rfl, V', hd.draws _, ht.trans (PTn.draws _)⟩
  · obtain ⟨n, rfl⟩ : ∃ n, N = n + 1 := ⟨N - 1, by omega⟩
    have hx : w.cell? ⟨g, n, none⟩ = some (.int .u8 x.toNat) := hx
    have hd0 : decide ((0 : Int) < (n : Int) + 1) = true := decide_eq_true (by omega)
    have hd1 : (0 : Int) < (n : Int) + 1 := by omega
    have hb1 : (0 : Int) ≤ (n : Int) ∧ (n : Int) < (n : Int) + 1 := by omega
    have hb2 : (0 : Int) ≤ (n : Int) := by omega
    have hxt := u8_dec x 13 (by decide)
    cases hc10 : ((c.toNat : Int) == 10)
    · cases h13 : ((x.toNat : Int) == 13)
      · have HE := Lib.hid (E0.out _ (hr.trans (hxt.symm.trans h13)) _ (hct.symm.trans hc10))
        clear hr E0 hct hxt hn
        unfold ptr
        go_enter Tryz.func59, Tryz.ntmps59
        go_wp2_with fail
        go_quiet (fail)
        have H1 := Lib.hid (H.out.draws nq)
        have T1 := Lib.hid (PTn.draws (b := b) (V := V) (X := X) (w := w) nq)
        have hw0 : Below (w.drewN nq).heap.size (w.drewN nq) ((w.drewN nq).alloc (.cells #[.int .u8 c.toNat] 5)) := (Below.refl _ _).alloc (Nat.le_refl _) _
        have H0 := Lib.hid (H1.out.below hw0)
        have T0 := Lib.hid (T1.out.trans (PTn.of hw0))
        have hBs : B ≤ ((w.drewN nq).alloc (.cells #[.int .u8 c.toNat] 5)).heap.size := by have := H0.out.hB; have := H0.out.lt; omega
        have hnew : ((w.drewN nq).alloc (.cells #[.int .u8 c.toNat] 5)).cell? ⟨(w.drewN nq).heap.size, 0, none⟩ = some (.int .u8 c.toNat) := by rw [Lib.cell_of_heap (heap_alloc_last _ _)]; rfl
        have d11 : (w.drewN nq).cell? ⟨b, 11, none⟩ = some (.slice (some ⟨g, 0, none⟩) (n + 1) cap) := by rw [← HV.out]; exact H1.out.cell 11 _ rfl
        clear c11 hw0 hd0 hd1 hb1 hb2 hx
        generalize w.drewN nq = w1 at *
        have HO := Lib.hid (show (w1.alloc (.cells #[.int .u8 c.toNat] 5)).ownsRow B 5 1 (.slice (some ⟨g, 0, none⟩) (n + 1) cap) (n + 1) (Lib.byteCells s.line) by have := H0.out.line; rw [HV.out, ← show (n + 1) = s.line.length from HN.out] at this; exact this)
        go_wp2_with (at_builtin; refine append_stay (by rfl) _ _ 65 rfl B 5 i0 (.int .u8 0) 1 1 Tryz.underlying65 hi hz0 hz1 hz2 rfl (by decide) _ _ _ rfl HO.out ⟨w1.heap.size, 0, none⟩ 1 1 [.int .u8 c.toNat] rfl rfl ?c1 ?c2 ?c3 ?c4 hBs ?_)
        case c1 =>
          intro j u hj
          match j, hj with
          | 0, hj => simp at hj; subst hj; exact hnew
        case c2 => intro u hu; simp at hu; subst hu; rfl
        case c3 => unfold maxLen; omega
        case c4 => omega
        intro v' w2 ho hg hst
        obtain ⟨g2, cap2, rfl⟩ : ∃ g cap, v' = .slice (some ⟨g, 0, none⟩) ((n + 1) + 1) cap := by
          rcases ho.2 with ⟨_, h0⟩ | ⟨g, cap, cur, hv, _⟩
          · omega
          · exact ⟨g, cap, hv⟩
        obtain ⟨hd, ht⟩ := H0.out.putLine (X := X) c (show w2.ownsRow B 5 1 (.slice (some ⟨g2, 0, none⟩) ((n + 1) + 1) cap2) (s.line.length + 1) (Lib.byteCells s.line ++ [.int .u8 c.toNat]) by rw [← show (n + 1) = s.line.length from HN.out]; exact ho) (by rw [HV.out]; exact hg) (by rw [HV.out]; exact hst)
        have hk2 : w2.heap[b]? = some (.cells (pcells b s q z lf V) 72 (0, 0)) := (hg.block b H0.out.lt (fun e => H0.out.neB.2.1 (by rw [HV.out]; exact e.symm))).trans H0.out.blk
        have k11 : w2.cell? ⟨b, 11, none⟩ = some (.slice (some ⟨g, 0, none⟩) (n + 1) cap) := by rw [← HV.out, Lib.cell_of_heap hk2]; rfl
        have f11 : w2.frozen? ⟨b, 11, none⟩ = false := Lib.frozen_of_heap hk2 11
        have k10 : w2.cell? ⟨b, 10, none⟩ = some (.int .i64 s.head) := by rw [Lib.cell_of_heap hk2]; rfl
        have f10 : w2.frozen? ⟨b, 10, none⟩ = false := Lib.frozen_of_heap hk2 10
        have hd3 := hd.set 10 (.int .i64 ((s.head : Int) + 1)) (s.put c) q z lf rfl rfl rfl rfl rfl rfl (fun e => ⟨e, rfl⟩)
        have ht3 := (T0.out.trans ht).trans (PTn.set (X := X) 10 (.int .i64 ((s.head : Int) + 1)))
        have z11 : ((w2.setCell ⟨b, 11, none⟩ (.slice (some ⟨g2, 0, none⟩) (n + 1 + 1) cap2)).setCell ⟨b, 10, none⟩ (.int .i64 ((s.head : Int) + 1))).cell? ⟨b, 11, none⟩ = some (.slice (some ⟨g2, 0, none⟩) (n + 1 + 1) cap2) := hd3.cell 11 _ rfl
        have z1 : ((w2.setCell ⟨b, 11, none⟩ (.slice (some ⟨g2, 0, none⟩) (n + 1 + 1) cap2)).setCell ⟨b, 10, none⟩ (.int .i64 ((s.head : Int) + 1))).cell? ⟨b, 1, none⟩ = some (.int .i64 s.L) := hd3.cell 1 _ rfl
        have z10 : ((w2.setCell ⟨b, 11, none⟩ (.slice (some ⟨g2, 0, none⟩) (n + 1 + 1) cap2)).setCell ⟨b, 10, none⟩ (.int .i64 ((s.head : Int) + 1))).cell? ⟨b, 10, none⟩ = some (.int .i64 ((s.head : Int) + 1)) := hd3.cell 10 _ rfl
        have z2 : ((w2.setCell ⟨b, 11, none⟩ (.slice (some ⟨g2, 0, none⟩) (n + 1 + 1) cap2)).setCell ⟨b, 10, none⟩ (.int .i64 ((s.head : Int) + 1))).cell? ⟨b, 2, none⟩ = some (.int .i64 s.H) := hd3.cell 2 _ rfl
        have HR := Lib.hid (show PTo B b (s.put c) q z lf V X w ((w2.setCell ⟨b, 11, none⟩ (.slice (some ⟨g2, 0, none⟩) (n + 1 + 1) cap2)).setCell ⟨b, 10, none⟩ (.int .i64 ((s.head : Int) + 1))) from ⟨_, hd3, ht3⟩)
        clear hd ht ho hg hst hk2 hnew d11 T1 T0 H0 H1 hd3 ht3
        go_upto_region 4 with (fail)
        generalize (w2.setCell ⟨b, 11, none⟩ (.slice (some ⟨g2, 0, none⟩) (n + 1 + 1) cap2)).setCell ⟨b, 10, none⟩ (.int .i64 ((s.head : Int) + 1)) = w3 at *
        clear k11 f11 k10 f10 hhi hhd hz hi hz0 hz1 hz2 hBs HO
        have hnr : decide ((!false) = true) = true := rfl
        have EL0 : addPE s c = if s.L ≤ (n + 1) + 1 then .returned (.tuple #[.bool false, flV 431]) else if s.H < s.head + 1 then .returned (.tuple #[.bool false, flV 431]) else .returned (.tuple #[.bool false, .nilIface]) := HE.out
        by_cases hl : s.L ≤ (n + 1) + 1
        · rw [if_pos hl] at EL0
          have HE2 := Lib.hid EL0
          have hl2 : (s.L : Int) ≤ ((n + 1) : Nat) + 1 := by omega
          clear EL0 hl
          go_wp2_with fail
          go_quiet (fail)
          go_wp2_with fail
          go_ret2
          obtain ⟨V', hd, ht⟩ := HR.out
          exact ⟨by rw [HE2.out]; rfl, V', by first | exact hd.draws _ | exact (hd.draws _).draws _, by first | exact ht.trans (PTn.draws _) | exact (ht.trans (PTn.draws _)).trans (PTn.draws _)⟩
        · rw [if_neg hl] at EL0
          have hl2 : ¬ (s.L : Int) ≤ ((n + 1) : Nat) + 1 := by omega
          have EL := EL0
          clear EL0 hl
          by_cases hh : s.H < s.head + 1
          · rw [if_pos hh] at EL
            have HE2 := Lib.hid EL
            have hh2 : (s.H : Int) < (s.head : Int) + 1 := by omega
            clear EL hh
            go_wp2_with fail
            go_quiet (fail)
            go_wp2_with fail
            go_quiet (fail)
            go_wp2_with fail
            go_ret2
            obtain ⟨V', hd, ht⟩ := HR.out
            exact ⟨by rw [HE2.out]; rfl, V', by first | exact hd.draws _ | exact (hd.draws _).draws _, by first | exact ht.trans (PTn.draws _) | exact (ht.trans (PTn.draws _)).trans (PTn.draws _)⟩
          · rw [if_neg hh] at EL
            have HE2 := Lib.hid EL
            have hh2 : ¬ (s.H : Int) < (s.head : Int) + 1 := by omega
            clear EL hh
            go_wp2_with fail
            go_quiet (fail)
            go_wp2_with fail
            go_quiet (fail)
            go_wp2_with fail
            go_ret2
            obtain ⟨V', hd, ht⟩ := HR.out
            exact ⟨by rw [HE2.out]; rfl, V', by first | exact hd.draws _ | exact (hd.draws _).draws _, by first | exact ht.trans (PTn.draws _) | exact (ht.trans (PTn.draws _)).trans (PTn.draws _)⟩
      · have HE := Lib.hid (E0.out _ (hr.trans (hxt.symm.trans h13)) _ (hct.symm.trans hc10))
        clear hr E0 hct hxt hn
        unfold ptr
        go_enter Tryz.func59, Tryz.ntmps59
        go_wp2_with fail
        go_quiet (fail)
        have H1 := Lib.hid (H.out.draws nq)
        have T1 := Lib.hid (PTn.draws (b := b) (V := V) (X := X) (w := w) nq)
        have hw0 : Below (w.drewN nq).heap.size (w.drewN nq) ((w.drewN nq).alloc (.cells #[.int .u8 c.toNat] 5)) := (Below.refl _ _).alloc (Nat.le_refl _) _
        have H0 := Lib.hid (H1.out.below hw0)
        have T0 := Lib.hid (T1.out.trans (PTn.of hw0))
        have hBs : B ≤ ((w.drewN nq).alloc (.cells #[.int .u8 c.toNat] 5)).heap.size := by have := H0.out.hB; have := H0.out.lt; omega
        have hnew : ((w.drewN nq).alloc (.cells #[.int .u8 c.toNat] 5)).cell? ⟨(w.drewN nq).heap.size, 0, none⟩ = some (.int .u8 c.toNat) := by rw [Lib.cell_of_heap (heap_alloc_last _ _)]; rfl
        have d11 : (w.drewN nq).cell? ⟨b, 11, none⟩ = some (.slice (some ⟨g, 0, none⟩) (n + 1) cap) := by rw [← HV.out]; exact H1.out.cell 11 _ rfl
        clear c11 hw0 hd0 hd1 hb1 hb2 hx
        generalize w.drewN nq = w1 at *
        have HO := Lib.hid (show (w1.alloc (.cells #[.int .u8 c.toNat] 5)).ownsRow B 5 1 (.slice (some ⟨g, 0, none⟩) (n + 1) cap) (n + 1) (Lib.byteCells s.line) by have := H0.out.line; rw [HV.out, ← show (n + 1) = s.line.length from HN.out] at this; exact this)
        go_wp2_with (at_builtin; refine append_stay (by rfl) _ _ 65 rfl B 5 i0 (.int .u8 0) 1 1 Tryz.underlying65 hi hz0 hz1 hz2 rfl (by decide) _ _ _ rfl HO.out ⟨w1.heap.size, 0, none⟩ 1 1 [.int .u8 c.toNat] rfl rfl ?c1 ?c2 ?c3 ?c4 hBs ?_)
        case c1 =>
          intro j u hj
          match j, hj with
          | 0, hj => simp at hj; subst hj; exact hnew
        case c2 => intro u hu; simp at hu; subst hu; rfl
        case c3 => unfold maxLen; omega
        case c4 => omega
        intro v' w2 ho hg hst
        obtain ⟨g2, cap2, rfl⟩ : ∃ g cap, v' = .slice (some ⟨g, 0, none⟩) ((n + 1) + 1) cap := by
          rcases ho.2 with ⟨_, h0⟩ | ⟨g, cap, cur, hv, _⟩
          · omega
          · exact ⟨g, cap, hv⟩
        obtain ⟨hd, ht⟩ := H0.out.putLine (X := X) c (show w2.ownsRow B 5 1 (.slice (some ⟨g2, 0, none⟩) ((n + 1) + 1) cap2) (s.line.length + 1) (Lib.byteCells s.line ++ [.int .u8 c.toNat]) by rw [← show (n + 1) = s.line.length from HN.out]; exact ho) (by rw [HV.out]; exact hg) (by rw [HV.out]; exact hst)
        have hk2 : w2.heap[b]? = some (.cells (pcells b s q z lf V) 72 (0, 0)) := (hg.block b H0.out.lt (fun e => H0.out.neB.2.1 (by rw [HV.out]; exact e.symm))).trans H0.out.blk
        have k11 : w2.cell? ⟨b, 11, none⟩ = some (.slice (some ⟨g, 0, none⟩) (n + 1) cap) := by rw [← HV.out, Lib.cell_of_heap hk2]; rfl
        have f11 : w2.frozen? ⟨b, 11, none⟩ = false := Lib.frozen_of_heap hk2 11
        have k10 : w2.cell? ⟨b, 10, none⟩ = some (.int .i64 s.head) := by rw [Lib.cell_of_heap hk2]; rfl
        have f10 : w2.frozen? ⟨b, 10, none⟩ = false := Lib.frozen_of_heap hk2 10
        have hd3 := hd.set 10 (.int .i64 ((s.head : Int) + 1)) (s.put c) q z lf rfl rfl rfl rfl rfl rfl (fun e => ⟨e, rfl⟩)
        have ht3 := (T0.out.trans ht).trans (PTn.set (X := X) 10 (.int .i64 ((s.head : Int) + 1)))
        have z11 : ((w2.setCell ⟨b, 11, none⟩ (.slice (some ⟨g2, 0, none⟩) (n + 1 + 1) cap2)).setCell ⟨b, 10, none⟩ (.int .i64 ((s.head : Int) + 1))).cell? ⟨b, 11, none⟩ = some (.slice (some ⟨g2, 0, none⟩) (n + 1 + 1) cap2) := hd3.cell 11 _ rfl
        have z1 : ((w2.setCell ⟨b, 11, none⟩ (.slice (some ⟨g2, 0, none⟩) (n + 1 + 1) cap2)).setCell ⟨b, 10, none⟩ (.int .i64 ((s.head : Int) + 1))).cell? ⟨b, 1, none⟩ = some (.int .i64 s.L) := hd3.cell 1 _ rfl
        have z10 : ((w2.setCell ⟨b, 11, none⟩ (.slice (some ⟨g2, 0, none⟩) (n + 1 + 1) cap2)).setCell ⟨b, 10, none⟩ (.int .i64 ((s.head : Int) + 1))).cell? ⟨b, 10, none⟩ = some (.int .i64 ((s.head : Int) + 1)) := hd3.cell 10 _ rfl
        have z2 : ((w2.setCell ⟨b, 11, none⟩ (.slice (some ⟨g2, 0, none⟩) (n + 1 + 1) cap2)).setCell ⟨b, 10, none⟩ (.int .i64 ((s.head : Int) + 1))).cell? ⟨b, 2, none⟩ = some (.int .i64 s.H) := hd3.cell 2 _ rfl
        have HR := Lib.hid (show PTo B b (s.put c) q z lf V X w ((w2.setCell ⟨b, 11, none⟩ (.slice (some ⟨g2, 0, none⟩) (n + 1 + 1) cap2)).setCell ⟨b, 10, none⟩ (.int .i64 ((s.head : Int) + 1))) from ⟨_, hd3, ht3⟩)
        clear hd ht ho hg hst hk2 hnew d11 T1 T0 H0 H1 hd3 ht3
        go_upto_region 4 with (fail)
        generalize (w2.setCell ⟨b, 11, none⟩ (.slice (some ⟨g2, 0, none⟩) (n + 1 + 1) cap2)).setCell ⟨b, 10, none⟩ (.int .i64 ((s.head : Int) + 1)) = w3 at *
        clear k11 f11 k10 f10 hhi hhd hz hi hz0 hz1 hz2 hBs HO
        have hnr : decide ((!false) = true) = true := rfl
        have EL0 : addPE s c = if s.L ≤ (n + 1) + 1 then .returned (.tuple #[.bool false, flV 431]) else .panicked malP := HE.out
        by_cases hl : s.L ≤ (n + 1) + 1
        · rw [if_pos hl] at EL0
          have HE2 := Lib.hid EL0
          have hl2 : (s.L : Int) ≤ ((n + 1) : Nat) + 1 := by omega
          clear EL0 hl
          go_wp2_with fail
          go_quiet (fail)
          go_wp2_with fail
          go_ret2
          obtain ⟨V', hd, ht⟩ := HR.out
          exact ⟨by rw [HE2.out]; rfl, V', by first | exact hd.draws _ | exact (hd.draws _).draws _, by first | exact ht.trans (PTn.draws _) | exact (ht.trans (PTn.draws _)).trans (PTn.draws _)⟩
        · rw [if_neg hl] at EL0
          have hl2 : ¬ (s.L : Int) ≤ ((n + 1) : Nat) + 1 := by omega
          have HE2 := Lib.hid EL0
          clear EL0 hl
          go_wp2_with fail
          go_quiet (fail)
          go_wp2_with fail
          obtain ⟨V', hd, ht⟩ := HR.out
          exact ⟨rfl, by rw [HE2.out]; rfl, V', hd.draws _, ht.trans (PTn.draws _)⟩
    · cases h13 : ((x.toNat : Int) == 13)
      · have HE := Lib.hid (E0.out _ (hr.trans (hxt.symm.trans h13)) _ (hct.symm.trans hc10))
        clear hr E0 hct hxt hn
        unfold ptr
        go_enter Tryz.func59, Tryz.ntmps59
        go_wp2_with fail
        go_quiet (fail)
        have H1 := Lib.hid (H.out.draws nq)
        have T1 := Lib.hid (PTn.draws (b := b) (V := V) (X := X) (w := w) nq)
        have hw0 : Below (w.drewN nq).heap.size (w.drewN nq) ((w.drewN nq).alloc (.cells #[.int .u8 c.toNat] 5)) := (Below.refl _ _).alloc (Nat.le_refl _) _
        have H0 := Lib.hid (H1.out.below hw0)
        have T0 := Lib.hid (T1.out.trans (PTn.of hw0))
        have hBs : B ≤ ((w.drewN nq).alloc (.cells #[.int .u8 c.toNat] 5)).heap.size := by have := H0.out.hB; have := H0.out.lt; omega
        have hnew : ((w.drewN nq).alloc (.cells #[.int .u8 c.toNat] 5)).cell? ⟨(w.drewN nq).heap.size, 0, none⟩ = some (.int .u8 c.toNat) := by rw [Lib.cell_of_heap (heap_alloc_last _ _)]; rfl
        have d11 : (w.drewN nq).cell? ⟨b, 11, none⟩ = some (.slice (some ⟨g, 0, none⟩) (n + 1) cap) := by rw [← HV.out]; exact H1.out.cell 11 _ rfl
        clear c11 hw0 hd0 hd1 hb1 hb2 hx
        generalize w.drewN nq = w1 at *
        have HO := Lib.hid (show (w1.alloc (.cells #[.int .u8 c.toNat] 5)).ownsRow B 5 1 (.slice (some ⟨g, 0, none⟩) (n + 1) cap) (n + 1) (Lib.byteCells s.line) by have := H0.out.line; rw [HV.out, ← show (n + 1) = s.line.length from HN.out] at this; exact this)
        go_wp2_with (at_builtin; refine append_stay (by rfl) _ _ 65 rfl B 5 i0 (.int .u8 0) 1 1 Tryz.underlying65 hi hz0 hz1 hz2 rfl (by decide) _ _ _ rfl HO.out ⟨w1.heap.size, 0, none⟩ 1 1 [.int .u8 c.toNat] rfl rfl ?c1 ?c2 ?c3 ?c4 hBs ?_)
        case c1 =>
          intro j u hj
          match j, hj with
          | 0, hj => simp at hj; subst hj; exact hnew
        case c2 => intro u hu; simp at hu; subst hu; rfl
        case c3 => unfold maxLen; omega
        case c4 => omega
        intro v' w2 ho hg hst
        obtain ⟨g2, cap2, rfl⟩ : ∃ g cap, v' = .slice (some ⟨g, 0, none⟩) ((n + 1) + 1) cap := by
          rcases ho.2 with ⟨_, h0⟩ | ⟨g, cap, cur, hv, _⟩
          · omega
          · exact ⟨g, cap, hv⟩
        obtain ⟨hd, ht⟩ := H0.out.putLine (X := X) c (show w2.ownsRow B 5 1 (.slice (some ⟨g2, 0, none⟩) ((n + 1) + 1) cap2) (s.line.length + 1) (Lib.byteCells s.line ++ [.int .u8 c.toNat]) by rw [← show (n + 1) = s.line.length from HN.out]; exact ho) (by rw [HV.out]; exact hg) (by rw [HV.out]; exact hst)
        have hk2 : w2.heap[b]? = some (.cells (pcells b s q z lf V) 72 (0, 0)) := (hg.block b H0.out.lt (fun e => H0.out.neB.2.1 (by rw [HV.out]; exact e.symm))).trans H0.out.blk
        have k11 : w2.cell? ⟨b, 11, none⟩ = some (.slice (some ⟨g, 0, none⟩) (n + 1) cap) := by rw [← HV.out, Lib.cell_of_heap hk2]; rfl
        have f11 : w2.frozen? ⟨b, 11, none⟩ = false := Lib.frozen_of_heap hk2 11
        have k10 : w2.cell? ⟨b, 10, none⟩ = some (.int .i64 s.head) := by rw [Lib.cell_of_heap hk2]; rfl
        have f10 : w2.frozen? ⟨b, 10, none⟩ = false := Lib.frozen_of_heap hk2 10
        have hd3 := hd.set 10 (.int .i64 ((s.head : Int) + 1)) (s.put c) q z lf rfl rfl rfl rfl rfl rfl (fun e => ⟨e, rfl⟩)
        have ht3 := (T0.out.trans ht).trans (PTn.set (X := X) 10 (.int .i64 ((s.head : Int) + 1)))
        have z11 : ((w2.setCell ⟨b, 11, none⟩ (.slice (some ⟨g2, 0, none⟩) (n + 1 + 1) cap2)).setCell ⟨b, 10, none⟩ (.int .i64 ((s.head : Int) + 1))).cell? ⟨b, 11, none⟩ = some (.slice (some ⟨g2, 0, none⟩) (n + 1 + 1) cap2) := hd3.cell 11 _ rfl
        have z1 : ((w2.setCell ⟨b, 11, none⟩ (.slice (some ⟨g2, 0, none⟩) (n + 1 + 1) cap2)).setCell ⟨b, 10, none⟩ (.int .i64 ((s.head : Int) + 1))).cell? ⟨b, 1, none⟩ = some (.int .i64 s.L) := hd3.cell 1 _ rfl
        have z10 : ((w2.setCell ⟨b, 11, none⟩ (.slice (some ⟨g2, 0, none⟩) (n + 1 + 1) cap2)).setCell ⟨b, 10, none⟩ (.int .i64 ((s.head : Int) + 1))).cell? ⟨b, 10, none⟩ = some (.int .i64 ((s.head : Int) + 1)) := hd3.cell 10 _ rfl
        have z2 : ((w2.setCell ⟨b, 11, none⟩ (.slice (some ⟨g2, 0, none⟩) (n + 1 + 1) cap2)).setCell ⟨b, 10, none⟩ (.int .i64 ((s.head : Int) + 1))).cell? ⟨b, 2, none⟩ = some (.int .i64 s.H) := hd3.cell 2 _ rfl
        have HR := Lib.hid (show PTo B b (s.put c) q z lf V X w ((w2.setCell ⟨b, 11, none⟩ (.slice (some ⟨g2, 0, none⟩) (n + 1 + 1) cap2)).setCell ⟨b, 10, none⟩ (.int .i64 ((s.head : Int) + 1))) from ⟨_, hd3, ht3⟩)
        clear hd ht ho hg hst hk2 hnew d11 T1 T0 H0 H1 hd3 ht3
        go_upto_region 4 with (fail)
        generalize (w2.setCell ⟨b, 11, none⟩ (.slice (some ⟨g2, 0, none⟩) (n + 1 + 1) cap2)).setCell ⟨b, 10, none⟩ (.int .i64 ((s.head : Int) + 1)) = w3 at *
        clear k11 f11 k10 f10 hhi hhd hz hi hz0 hz1 hz2 hBs HO
        have hnr : decide ((!false) = true) = true := rfl
        have EL0 : addPE s c = if s.L ≤ (n + 1) + 1 then .returned (.tuple #[.bool false, flV 431]) else .panicked malP := HE.out
        by_cases hl : s.L ≤ (n + 1) + 1
        · rw [if_pos hl] at EL0
          have HE2 := Lib.hid EL0
          have hl2 : (s.L : Int) ≤ ((n + 1) : Nat) + 1 := by omega
          clear EL0 hl
          go_wp2_with fail
          go_quiet (fail)
          go_wp2_with fail
          go_ret2
          obtain ⟨V', hd, ht⟩ := HR.out
          exact ⟨by rw [HE2.out]; rfl, V', by first | exact hd.draws _ | exact (hd.draws _).draws _, by first | exact ht.trans (PTn.draws _) | exact (ht.trans (PTn.draws _)).trans (PTn.draws _)⟩
        · rw [if_neg hl] at EL0
          have hl2 : ¬ (s.L : Int) ≤ ((n + 1) : Nat) + 1 := by omega
          have HE2 := Lib.hid EL0
          clear EL0 hl
          go_wp2_with fail
          go_quiet (fail)
          go_wp2_with fail
          obtain ⟨V', hd, ht⟩ := HR.out
          exact ⟨rfl, by rw [HE2.out]; rfl, V', hd.draws _, ht.trans (PTn.draws _)⟩
      · have HE := Lib.hid (E0.out _ (hr.trans (hxt.symm.trans h13)) _ (hct.symm.trans hc10))
        clear hr E0 hct hxt hn
        unfold ptr
        go_enter Tryz.func59, Tryz.ntmps59
        go_wp2_with fail
        go_quiet (fail)
        have H1 := Lib.hid (H.out.draws nq)
        have T1 := Lib.hid (PTn.draws (b := b) (V := V) (X := X) (w := w) nq)
        have hw0 : Below (w.drewN nq).heap.size (w.drewN nq) ((w.drewN nq).alloc (.cells #[.int .u8 c.toNat] 5)) := (Below.refl _ _).alloc (Nat.le_refl _) _
        have H0 := Lib.hid (H1.out.below hw0)
        have T0 := Lib.hid (T1.out.trans (PTn.of hw0))
        have hBs : B ≤ ((w.drewN nq).alloc (.cells #[.int .u8 c.toNat] 5)).heap.size := by have := H0.out.hB; have := H0.out.lt; omega
        have hnew : ((w.drewN nq).alloc (.cells #[.int .u8 c.toNat] 5)).cell? ⟨(w.drewN nq).heap.size, 0, none⟩ = some (.int .u8 c.toNat) := by rw [Lib.cell_of_heap (heap_alloc_last _ _)]; rfl
        have d11 : (w.drewN nq).cell? ⟨b, 11, none⟩ = some (.slice (some ⟨g, 0, none⟩) (n + 1) cap) := by rw [← HV.out]; exact H1.out.cell 11 _ rfl
        clear c11 hw0 hd0 hd1 hb1 hb2 hx
        generalize w.drewN nq = w1 at *
        have HO := Lib.hid (show (w1.alloc (.cells #[.int .u8 c.toNat] 5)).ownsRow B 5 1 (.slice (some ⟨g, 0, none⟩) (n + 1) cap) (n + 1) (Lib.byteCells s.line) by have := H0.out.line; rw [HV.out, ← show (n + 1) = s.line.length from HN.out] at this; exact this)
        go_wp2_with (at_builtin; refine append_stay (by rfl) _ _ 65 rfl B 5 i0 (.int .u8 0) 1 1 Tryz.underlying65 hi hz0 hz1 hz2 rfl (by decide) _ _ _ rfl HO.out ⟨w1.heap.size, 0, none⟩ 1 1 [.int .u8 c.toNat] rfl rfl ?c1 ?c2 ?c3 ?c4 hBs ?_)
        case c1 =>
          intro j u hj
          match j, hj with
          | 0, hj => simp at hj; subst hj; exact hnew
        case c2 => intro u hu; simp at hu; subst hu; rfl
        case c3 => unfold maxLen; omega
        case c4 => omega
        intro v' w2 ho hg hst
        obtain ⟨g2, cap2, rfl⟩ : ∃ g cap, v' = .slice (some ⟨g, 0, none⟩) ((n + 1) + 1) cap := by
          rcases ho.2 with ⟨_, h0⟩ | ⟨g, cap, cur, hv, _⟩
          · omega
          · exact ⟨g, cap, hv⟩
        obtain ⟨hd, ht⟩ := H0.out.putLine (X := X) c (show w2.ownsRow B 5 1 (.slice (some ⟨g2, 0, none⟩) ((n + 1) + 1) cap2) (s.line.length + 1) (Lib.byteCells s.line ++ [.int .u8 c.toNat]) by rw [← show (n + 1) = s.line.length from HN.out]; exact ho) (by rw [HV.out]; exact hg) (by rw [HV.out]; exact hst)
        have hk2 : w2.heap[b]? = some (.cells (pcells b s q z lf V) 72 (0, 0)) := (hg.block b H0.out.lt (fun e => H0.out.neB.2.1 (by rw [HV.out]; exact e.symm))).trans H0.out.blk
        have k11 : w2.cell? ⟨b, 11, none⟩ = some (.slice (some ⟨g, 0, none⟩) (n + 1) cap) := by rw [← HV.out, Lib.cell_of_heap hk2]; rfl
        have f11 : w2.frozen? ⟨b, 11, none⟩ = false := Lib.frozen_of_heap hk2 11
        have k10 : w2.cell? ⟨b, 10, none⟩ = some (.int .i64 s.head) := by rw [Lib.cell_of_heap hk2]; rfl
        have f10 : w2.frozen? ⟨b, 10, none⟩ = false := Lib.frozen_of_heap hk2 10
        have hd3 := hd.set 10 (.int .i64 ((s.head : Int) + 1)) (s.put c) q z lf rfl rfl rfl rfl rfl rfl (fun e => ⟨e, rfl⟩)
        have ht3 := (T0.out.trans ht).trans (PTn.set (X := X) 10 (.int .i64 ((s.head : Int) + 1)))
        have z11 : ((w2.setCell ⟨b, 11, none⟩ (.slice (some ⟨g2, 0, none⟩) (n + 1 + 1) cap2)).setCell ⟨b, 10, none⟩ (.int .i64 ((s.head : Int) + 1))).cell? ⟨b, 11, none⟩ = some (.slice (some ⟨g2, 0, none⟩) (n + 1 + 1) cap2) := hd3.cell 11 _ rfl
        have z1 : ((w2.setCell ⟨b, 11, none⟩ (.slice (some ⟨g2, 0, none⟩) (n + 1 + 1) cap2)).setCell ⟨b, 10, none⟩ (.int .i64 ((s.head : Int) + 1))).cell? ⟨b, 1, none⟩ = some (.int .i64 s.L) := hd3.cell 1 _ rfl
        have z10 : ((w2.setCell ⟨b, 11, none⟩ (.slice (some ⟨g2, 0, none⟩) (n + 1 + 1) cap2)).setCell ⟨b, 10, none⟩ (.int .i64 ((s.head : Int) + 1))).cell? ⟨b, 10, none⟩ = some (.int .i64 ((s.head : Int) + 1)) := hd3.cell 10 _ rfl
        have z2 : ((w2.setCell ⟨b, 11, none⟩ (.slice (some ⟨g2, 0, none⟩) (n + 1 + 1) cap2)).setCell ⟨b, 10, none⟩ (.int .i64 ((s.head : Int) + 1))).cell? ⟨b, 2, none⟩ = some (.int .i64 s.H) := hd3.cell 2 _ rfl
        have HR := Lib.hid (show PTo B b (s.put c) q z lf V X w ((w2.setCell ⟨b, 11, none⟩ (.slice (some ⟨g2, 0, none⟩) (n + 1 + 1) cap2)).setCell ⟨b, 10, none⟩ (.int .i64 ((s.head : Int) + 1))) from ⟨_, hd3, ht3⟩)
        clear hd ht ho hg hst hk2 hnew d11 T1 T0 H0 H1 hd3 ht3
        go_upto_region 4 with (fail)
        generalize (w2.setCell ⟨b, 11, none⟩ (.slice (some ⟨g2, 0, none⟩) (n + 1 + 1) cap2)).setCell ⟨b, 10, none⟩ (.int .i64 ((s.head : Int) + 1)) = w3 at *
        clear k11 f11 k10 f10 hhi hhd hz hi hz0 hz1 hz2 hBs HO
        have hnr : decide ((!true) = true) = false := rfl
        have EL : addPE s c = if s.H < s.head + 1 then .returned (.tuple #[.bool false, flV 431]) else .returned (.tuple #[.bool true, .nilIface]) := HE.out
        by_cases hh : s.H < s.head + 1
        · rw [if_pos hh] at EL
          have HE2 := Lib.hid EL
          have hh2 : (s.H : Int) < (s.head : Int) + 1 := by omega
          clear EL hh
          go_wp2_with fail
          go_quiet (fail)
          go_wp2_with fail
          go_quiet (fail)
          go_wp2_with fail
          go_ret2
          obtain ⟨V', hd, ht⟩ := HR.out
          exact ⟨by rw [HE2.out]; rfl, V', by first | exact hd.draws _ | exact (hd.draws _).draws _, by first | exact ht.trans (PTn.draws _) | exact (ht.trans (PTn.draws _)).trans (PTn.draws _)⟩
        · rw [if_neg hh] at EL
          have HE2 := Lib.hid EL
          have hh2 : ¬ (s.H : Int) < (s.head : Int) + 1 := by omega
          clear EL hh
          go_wp2_with fail
          go_quiet (fail)
          go_wp2_with fail
          go_quiet (fail)
          go_wp2_with fail
          go_ret2
          obtain ⟨V', hd, ht⟩ := HR.out
          exact ⟨by rw [HE2.out]; rfl, V', by first | exact hd.draws _ | exact (hd.draws _).draws _, by first | exact ht.trans (PTn.draws _) | exact (ht.trans (PTn.draws _)).trans (PTn.draws _)⟩
end Tk
end Go.Proofs.YtpcdaaijlgilkaaGreatDoor
