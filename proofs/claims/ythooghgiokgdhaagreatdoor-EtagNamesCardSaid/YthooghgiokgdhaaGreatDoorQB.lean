/- FldL Bld BldS FldM EtP, put together. -/
import Derived.Test.YthooghgiokgdhaaGreatDoorQA
import Derived.Shelf.Strings.Builder1
namespace Go.Proofs.YthooghgiokgdhaaGreatDoor
open Go.RowKit
namespace Tk

def lnN (l : Bs) : Bs := if lineOk l then lineN l else []
def lnV (l : Bs) : Bs := if lineOk l then lineV l else []
def lnE (l : Bs) : Int := if lineOk l then 0 else 4
def LinePost (l : Bs) (w : World) (e : Ending) (w' : World) : Prop := e = .returned (.tuple #[.agg #[.string (mkS (lnN l)), .string (mkS (lnV l))], .int .i64 (lnE l)]) ∧ Below w.heap.size w w'
theorem ln_ok (l : Bs) (h : lineOk l = true) : lnN l = lineN l ∧ lnV l = lineV l ∧ lnE l = 0 := by unfold lnN lnV lnE; rw [h]; exact ⟨rfl, rfl, rfl⟩
theorem ln_no (l : Bs) (h : lineOk l = false) : lnN l = [] ∧ lnV l = [] ∧ lnE l = 4 := by unfold lnN lnV lnE; rw [h]; exact ⟨rfl, rfl, rfl⟩

theorem cut_len1 (c : UInt8) (l : Bs) : (cutL c l).1.length ≤ l.length := by
  unfold cutL
  split
  · exact (List.takeWhile_sublist (· != c) (l := l)).length_le
  · exact Nat.le_refl _
theorem cut_len2 (c : UInt8) (l : Bs) : (cutL c l).2.1.length ≤ l.length := by
  unfold cutL
  split
  · refine Nat.le_trans (by simp) ((List.dropWhile_sublist (· != c) (l := l)).length_le)
  · simp

/-- a block of two cells of the call's own, and what becomes of it -/
def Two (w : World) (g : Nat) (T : TypeId) (a b : Value) : Prop := w.heap[g]? = some (.cells #[a, b] T (0, 0))
theorem Two.new (w : World) (T : TypeId) (a b : Value) : Two (w.alloc (.cells #[a, b] T)) w.heap.size T a b := heap_alloc_last w _
theorem Two.later {w w' : World} {g : Nat} {T : TypeId} {a b : Value} (h : Two w g T a b) (hb : Below w.heap.size w w') : Two w' g T a b := by
  unfold Two at *
  have hlt : g < w.heap.size := (Array.getElem?_eq_some_iff.1 h).1
  rw [hb.block g hlt]; exact h
theorem Two.draws {w : World} {g : Nat} {T : TypeId} {a b : Value} (h : Two w g T a b) (n : Nat) : Two (w.drewN n) g T a b := h
theorem Two.lt {w : World} {g : Nat} {T : TypeId} {a b : Value} (h : Two w g T a b) : g < w.heap.size := (Array.getElem?_eq_some_iff.1 h).1
theorem Two.c0 {w : World} {g : Nat} {T : TypeId} {a b : Value} (h : Two w g T a b) : w.cell? ⟨g, 0, none⟩ = some a := by rw [Lib.cell_of_heap h]; rfl
theorem Two.c1 {w : World} {g : Nat} {T : TypeId} {a b : Value} (h : Two w g T a b) : w.cell? ⟨g, 1, none⟩ = some b := by rw [Lib.cell_of_heap h]; rfl
theorem Two.f0 {w : World} {g : Nat} {T : TypeId} {a b : Value} (h : Two w g T a b) : w.frozen? ⟨g, 0, none⟩ = false := Lib.frozen_of_heap h 0
theorem Two.f1 {w : World} {g : Nat} {T : TypeId} {a b : Value} (h : Two w g T a b) : w.frozen? ⟨g, 1, none⟩ = false := Lib.frozen_of_heap h 1

theorem Two.set {w : World} {g : Nat} {T : TypeId} {a b : Value} (h : Two w g T a b) (a' b' : Value) (o : Obj) :
    (((w.setCell ⟨g, 0, none⟩ a').setCell ⟨g, 1, none⟩ b').alloc o).cell? ⟨g, 0, none⟩ = some a' ∧ (((w.setCell ⟨g, 0, none⟩ a').setCell ⟨g, 1, none⟩ b').alloc o).cell? ⟨g, 1, none⟩ = some b' := by
  have hlt : g < ((w.setCell ⟨g, 0, none⟩ a').setCell ⟨g, 1, none⟩ b').heap.size := by simpa using h.lt
  have h1 : (w.setCell ⟨g, 0, none⟩ a').cell? ⟨g, 1, none⟩ = some b := by
    rw [World.cell?_setCell_other (w := w) (a := ⟨g, 0, none⟩) (b := ⟨g, 1, none⟩) (h := by intro e; injection e with _ e2; cases e2)]; exact h.c1
  constructor
  · rw [World.cell?_alloc_lt _ _ _ hlt, World.cell?_setCell_other (w := w.setCell ⟨g, 0, none⟩ a') (a := ⟨g, 1, none⟩) (b := ⟨g, 0, none⟩) (h := by intro e; injection e with _ e2; cases e2)]
    exact World.cell?_setCell_same _ _ _ h.c0
  · rw [World.cell?_alloc_lt _ _ _ hlt]
    exact World.cell?_setCell_same _ _ _ h1
theorem Two.put {w : World} {g : Nat} {T : TypeId} {a b : Value} (h : Two w g T a b) (a' b' : Value) :
    ((w.setCell ⟨g, 0, none⟩ a').setCell ⟨g, 1, none⟩ b').cell? ⟨g, 0, none⟩ = some a' ∧ ((w.setCell ⟨g, 0, none⟩ a').setCell ⟨g, 1, none⟩ b').cell? ⟨g, 1, none⟩ = some b' := by
  have h1 : (w.setCell ⟨g, 0, none⟩ a').cell? ⟨g, 1, none⟩ = some b := by
    rw [World.cell?_setCell_other (w := w) (a := ⟨g, 0, none⟩) (b := ⟨g, 1, none⟩) (h := by intro e; injection e with _ e2; cases e2)]; exact h.c1
  constructor
  · rw [World.cell?_setCell_other (w := w.setCell ⟨g, 0, none⟩ a') (a := ⟨g, 1, none⟩) (b := ⟨g, 0, none⟩) (h := by intro e; injection e with _ e2; cases e2)]
    exact World.cell?_setCell_same _ _ _ h.c0
  · exact World.cell?_setCell_same _ _ _ h1
theorem Two.below {w0 w : World} {B g : Nat} {T : TypeId} {a b : Value} (hb : Below B w0 w) (h : Two w g T a b) (hg : B ≤ g) (a' b' : Value) (o : Obj) : Below B w0 (((w.setCell ⟨g, 0, none⟩ a').setCell ⟨g, 1, none⟩ b').alloc o) :=
  ((hb.setCell (p := ⟨g, 0, none⟩) hg _).setCell (p := ⟨g, 1, none⟩) hg _).alloc (by have := h.lt; simp; omega) _

end Tk
end Go.Proofs.YthooghgiokgdhaaGreatDoor
namespace Go.Proofs.YthooghgiokgdhaaGreatDoor
open Go.RowKit
namespace Tk

theorem bldInfo : (Tryz.prog.info? 110).map (·.size) = some 2 := by kernel_rfl
theorem bldLies : liesAt Tryz.prog Tryz.prog.depth 110 (2 / Tryz.prog.cellsOf 110) 0 110 1 = true := by kernel_rfl

abbrev IsB (B b : Nat) (l : Bs) (w : World) : Prop := Lib.IsBuilder 110 5 B b (Lib.byteCells l) w

set_option maxHeartbeats 1000000 in
set_option maxRecDepth 100000 in
theorem check_used (b : Nat) (w : World) (h0 : w.cell? ⟨b, 0, none⟩ = some (.pointer (some ⟨b, 0, none⟩))) :
    Calls Tryz.prog 191 #[.pointer (some ⟨b, 0, none⟩)] w fun e w' => e = .returned (.tuple #[]) ∧ w' = w := by
  obtain ⟨j, hj, _⟩ := Option.map_eq_some_iff.1 bldInfo
  go_enter Tryz.func191, Tryz.ntmps191
  go_wp2_with fail
  rw [Lib.run_neq_ptr_same w _ Tryz.underlying107 hj]
  go_wp2_with fail
  go_end0
  exact ⟨rfl, rfl⟩

set_option maxHeartbeats 1000000 in
set_option maxRecDepth 100000 in
theorem check_fresh (b : Nat) (w : World) (h0 : w.cell? ⟨b, 0, none⟩ = some (.pointer none)) (hsh : w.shape? b = some (110, 2)) (hfz : w.frozen? ⟨b, 0, none⟩ = false) :
    Calls Tryz.prog 191 #[.pointer (some ⟨b, 0, none⟩)] w fun e w' => e = .returned (.tuple #[]) ∧ w' = w.setCell ⟨b, 0, none⟩ (.pointer (some ⟨b, 0, none⟩)) := by
  obtain ⟨j, hj, hjs⟩ := Option.map_eq_some_iff.1 bldInfo
  go_enter Tryz.func191, Tryz.ntmps191
  go_wp2_with fail
  rw [Lib.run_to_unsafe w ⟨b, 0, none⟩ Tryz.underlying107 Tryz.underlying261 hj (by rw [hjs]; decide) hsh (Nat.zero_lt_succ 1)]
  simp only [Result.andThen]
  rw [Oper.upon_value]
  go_wp2_with fail
  rw [run_callFunc_extern Tryz.func244 (by kernel_rfl) (by kernel_rfl) (by kernel_rfl) (e := Extern.AbiNoEscape.same) (by kernel_rfl)]
  rw [Lib.run_noEscape]
  simp only [Result.andThen]
  rw [Oper.upon_value]
  go_wp2_with fail
  rw [Lib.run_from_unsafe w ⟨b, 0, none⟩ Tryz.underlying261 Tryz.underlying107 hj hsh bldLies]
  simp only [Result.andThen]
  rw [Oper.upon_value]
  go_wp2_with fail
  go_end0
  exact ⟨rfl, rfl⟩

theorem check_any (B b : Nat) (l : Bs) (w : World) (h : IsB B b l w) :
    Calls Tryz.prog 191 #[.pointer (some ⟨b, 0, none⟩)] w fun e w' => e = .returned (.tuple #[]) ∧ (Lib.BuilderAt 110 5 B b (.pointer (some ⟨b, 0, none⟩)) (Lib.byteCells l) w' ∧ Below B w w') := by
  rcases h with h | h
  · refine (check_fresh b w h.cell0 h.shape h.frozen0).mono ?_
    rintro e w' ⟨rfl, rfl⟩
    exact ⟨rfl, h.used _, (Below.refl B w).setCell (p := ⟨b, 0, none⟩) h.1 _⟩
  · refine (check_used b w h.cell0).mono ?_
    rintro e w' ⟨rfl, rfl⟩
    exact ⟨rfl, h, Below.refl B _⟩

theorem byteInf : (Tryz.prog.info? 5).map (fun i => (i.zero, i.size, i.bytes)) = some (some (.int .u8 0), 1, 1) := by kernel_rfl

end Tk
end Go.Proofs.YthooghgiokgdhaaGreatDoor
namespace Go.Proofs.YthooghgiokgdhaaGreatDoor
open Go.RowKit
namespace Tk

theorem cells_str (l : Bs) (s : ByteArray) : Lib.byteCells (l ++ bs s) = Lib.byteCells l ++ Lib.strCells s := by
  simp [Lib.byteCells, Lib.strCells, bs]

/-- blocks other than b that hold no bytes stay -/
def Others (b : Nat) (w w' : World) : Prop := ∀ (k : Nat) (cs : Array Value) (T : TypeId) (fr : Nat × Nat), w.heap[k]? = some (.cells cs T fr) → T ≠ 5 → k ≠ b → w'.heap[k]? = some (.cells cs T fr)

theorem check_oth (B b : Nat) (l : Bs) (w : World) (h : IsB B b l w) :
    Calls Tryz.prog 191 #[.pointer (some ⟨b, 0, none⟩)] w fun e w' => e = .returned (.tuple #[]) ∧ Lib.BuilderAt 110 5 B b (.pointer (some ⟨b, 0, none⟩)) (Lib.byteCells l) w' ∧ Below B w w' ∧ ∀ k, k ≠ b → w'.heap[k]? = w.heap[k]? := by
  rcases h with h | h
  · refine (check_fresh b w h.cell0 h.shape h.frozen0).mono ?_
    rintro e w' ⟨rfl, rfl⟩
    exact ⟨rfl, h.used _, (Below.refl B w).setCell (p := ⟨b, 0, none⟩) h.1 _, fun k hk => Below.heap_setCell _ _ _ _ hk⟩
  · refine (check_used b w h.cell0).mono ?_
    rintro e w' ⟨rfl, rfl⟩
    exact ⟨rfl, h, Below.refl B _, fun _ _ => rfl⟩

set_option maxHeartbeats 2000000 in
set_option maxRecDepth 100000 in
theorem writeString (B b : Nat) (l : Bs) (s : ByteArray) (w : World) (h : IsB B b l w) (hlen : l.length + s.size ≤ 1099511627776) (hBw : B ≤ w.heap.size) :
    Calls Tryz.prog 124 #[.pointer (some ⟨b, 0, none⟩), .string s] w fun e w' => e = .returned (.tuple #[.int .i64 s.size, .nilIface]) ∧ IsB B b (l ++ bs s) w' ∧ Below B w w' ∧ Others b w w' := by
  obtain ⟨i0, hi, hz0, hz1, hz2⟩ := info_parts byteInf
  have hl : (Lib.byteCells l).length = l.length := by simp [Lib.byteCells]
  go_enter Tryz.func124, Tryz.ntmps124
  go_wp2_with fail
  refine (check_oth B b l _ h).mono ?_
  rintro e w1 ⟨rfl, h1, hb1, hk1⟩
  have HK1 := Lib.hid hk1
  clear hk1
  obtain ⟨hB, v, hbk, hown, hne⟩ := h1
  have c0 : w1.cell? ⟨b, 0, none⟩ = some (.pointer (some ⟨b, 0, none⟩)) := by rw [Lib.cell_of_heap hbk]; rfl
  have c1 : w1.cell? ⟨b, 1, none⟩ = some v := by rw [Lib.cell_of_heap hbk]; rfl
  go_wp2_with (at_builtin; refine Lib.wpList_append_own_string _ rfl _ _ 108 9 rfl B 5 i0 Tryz.underlying108 Tryz.underlying9 hi hz0 hz1 hz2 _ _ _ rfl hown s rfl ?c3 ?c4 ?c5 ?_)
  case c3 => unfold maxLen; omega
  case c4 => omega
  case c5 => have := hb1.size; omega
  intro v' w2 hown' hgrow _
  have hlt : b < w1.heap.size := by
    rcases Nat.lt_or_ge b w1.heap.size with h' | h'
    · exact h'
    · simp [Array.getElem?_eq_none h'] at hbk
  have hb2 : w2.heap[b]? = some (.cells #[.pointer (some ⟨b, 0, none⟩), v] 110 (0, 0)) := by
    rw [hgrow.block b hlt (fun e => hne e.symm)]
    exact hbk
  have d0 : w2.cell? ⟨b, 0, none⟩ = some (.pointer (some ⟨b, 0, none⟩)) := by rw [Lib.cell_of_heap hb2]; rfl
  have d1 : w2.cell? ⟨b, 1, none⟩ = some v := by rw [Lib.cell_of_heap hb2]; rfl
  have f1 : w2.frozen? ⟨b, 1, none⟩ = false := Lib.frozen_of_heap hb2 1
  obtain ⟨ao, n', cap, rfl⟩ : ∃ ao n' cap, v' = .slice ao n' cap := by
    rcases hown'.2 with ⟨hv, _⟩ | ⟨g, cap, cur, hv, _⟩
    · exact ⟨_, _, _, hv⟩
    · exact ⟨_, _, _, hv⟩
  go_wp2_with fail
  go_ret2
  refine ⟨rfl, .inr ?_, ?_, ?_⟩
  · rw [cells_str]
    exact Lib.BuilderAt.put (T := 110) (e := 5) hB hb2 (bs' := Lib.byteCells l ++ Lib.strCells s) (by simpa [hl, Lib.strCells_length] using hown') (by decide)
  · exact (hb1.grown hgrow (by have := hb1.size; omega) (fun k hk => (hown.lt k hk).1)).setCell (p := ⟨b, 1, none⟩) hB _
  · intro k cs T fr hk hT hne'
    have h1 : w1.heap[k]? = some (.cells cs T fr) := by rw [HK1.out k hne']; exact hk
    have hlt1 : k < w1.heap.size := (Array.getElem?_eq_some_iff.1 h1).1
    rw [Below.heap_setCell _ _ _ _ hne', hgrow.block k hlt1 (fun e => Lib.ownBlock_ne hown h1 hT e.symm)]
    exact h1
end Tk
end Go.Proofs.YthooghgiokgdhaaGreatDoor
namespace Go.Proofs.YthooghgiokgdhaaGreatDoor
open Go.RowKit
namespace Tk

/-- a slice that holds these fields -/
def IsFlds (w : World) (v : Value) (l : List (Bs × Bs)) : Prop :=
  ∃ (a : Option Addr) (c : Nat), v = .slice a l.length c ∧ l.length ≤ c ∧ ∀ j f, l[j]? = some f → ∃ b o, a = some ⟨b, o, none⟩ ∧ w.cell? ⟨b, o + j * 2, none⟩ = some (.string (mkS f.1)) ∧ w.cell? ⟨b, o + j * 2 + 1, none⟩ = some (.string (mkS f.2))
theorem cell_lt {w : World} {p : Addr} {v : Value} (h : w.cell? p = some v) : p.block < w.heap.size := by
  refine Nat.lt_of_not_le fun hle => ?_
  simp only [World.cell?, Array.getElem?_eq_none hle] at h
  cases h
theorem isFlds_below {w w' : World} {v : Value} {l : List (Bs × Bs)} (h : IsFlds w v l) (hb : Below w.heap.size w w') : IsFlds w' v l := by
  obtain ⟨a, c, rfl, hl, hc⟩ := h
  refine ⟨a, c, rfl, hl, fun j t hj => ?_⟩
  obtain ⟨b, o, rfl, h1, h2⟩ := hc j t hj
  exact ⟨b, o, rfl, (hb.cell (p := ⟨b, o + j * 2, none⟩) (cell_lt (p := ⟨b, o + j * 2, none⟩) h1)).trans h1, (hb.cell (p := ⟨b, o + j * 2 + 1, none⟩) (cell_lt (p := ⟨b, o + j * 2 + 1, none⟩) h2)).trans h2⟩

def sumF : List (Bs × Bs) → Nat
  | [] => 0
  | f :: t => f.1.length + f.2.length + 4 + sumF t
def linesF (l : List (Bs × Bs)) : Bs := l.flatMap bytesF
theorem bytesF_len (f : Bs × Bs) : (bytesF f).length = f.1.length + f.2.length + 4 := by
  unfold bytesF; simp only [List.length_append, List.length_cons, List.length_nil]; omega
theorem lines_len : ∀ l, (linesF l).length = sumF l
  | [] => rfl
  | f :: t => by
    have := lines_len t
    unfold linesF at *
    rw [List.flatMap_cons, List.length_append, this, bytesF_len, sumF]
theorem sumF_mem : ∀ (l : List (Bs × Bs)) (f : Bs × Bs), f ∈ l → f.1.length + f.2.length + 4 ≤ sumF l
  | g :: t, f, h => by
    unfold sumF
    rcases List.mem_cons.1 h with rfl | h
    · omega
    · have := sumF_mem t f h; omega
theorem sumF_take : ∀ (l : List (Bs × Bs)) (i : Nat), sumF (l.take i) ≤ sumF l
  | [], i => by simp
  | f :: t, 0 => by simp [sumF]
  | f :: t, i + 1 => by have := sumF_take t i; simp only [List.take_succ_cons, sumF]; omega

def byN (l : List (Bs × Bs)) : Bs := if okFs l then linesF l else []
def byE (l : List (Bs × Bs)) : Int := if okFs l then 0 else 4
def BytesPost (l : List (Bs × Bs)) (w : World) (e : Ending) (w' : World) : Prop := e = .returned (.tuple #[.string (mkS (byN l)), .int .i64 (byE l)]) ∧ Below w.heap.size w w'

theorem okFs_take_no (l : List (Bs × Bs)) (f : Bs × Bs) (h : f ∈ l) (hk : okF f.1 f.2 = false) : okFs l = false := by
  cases hh : okFs l
  · rfl
  · unfold okFs at hh
    rw [List.all_eq_true] at hh
    rw [hh f h] at hk; cases hk
theorem okFs_snoc (l : List (Bs × Bs)) (f : Bs × Bs) (h : okFs l = true) (hk : okF f.1 f.2 = true) : okFs (l ++ [f]) = true := by
  unfold okFs at *
  rw [List.all_append, h]; simp [hk]
theorem lines_snoc (l : List (Bs × Bs)) (f : Bs × Bs) : linesF (l ++ [f]) = linesF l ++ f.1 ++ [58, 32] ++ f.2 ++ [13, 10] := by
  unfold linesF bytesF; simp

theorem own_keep {w w' : World} {B : Nat} {v : Value} {n : Nat} {xs : List Value} {e : TypeId} (h : w.ownsRow B e 1 v n xs) (hb : Below w.heap.size w w') : w'.ownsRow B e 1 v n xs :=
  World.ownsRow.kept h (row := none) ⟨hb.os, hb.tape, hb.output, hb.size, fun k hk _ => hb.block k hk⟩ (by cases h : v.ownBlock <;> simp)
theorem at_below {w w' : World} {B b : Nat} {p : Value} {xs : List Value} (h : Lib.BuilderAt 110 5 B b p xs w) (hb : Below w.heap.size w w') : Lib.BuilderAt 110 5 B b p xs w' := by
  have hlt := h.lt
  obtain ⟨hB, v, h1, h2, h3⟩ := h
  exact ⟨hB, v, by rw [hb.block b hlt]; exact h1, own_keep h2 hb, h3⟩
theorem isB_below {w w' : World} {B b : Nat} {l : Bs} (h : IsB B b l w) (hb : Below w.heap.size w w') : IsB B b l w' := by
  rcases h with h | h
  · exact .inl (at_below h hb)
  · exact .inr (at_below h hb)
theorem isB_lt {w : World} {B b : Nat} {l : Bs} (h : IsB B b l w) : b < w.heap.size := by
  rcases h with h | h <;> exact h.lt
theorem Two.others {w w' : World} {g b : Nat} {T : TypeId} {x y : Value} (h : Two w g T x y) (ho : Others b w w') (hT : T ≠ 5) (hg : g ≠ b) : Two w' g T x y := ho g _ _ _ h hT hg

set_option maxHeartbeats 8000000 in
set_option maxRecDepth 100000 in
theorem bytes_any (v : Value) (l : List (Bs × Bs)) (w : World) (hs : IsFlds w v l) (hz : sumF l ≤ 1099511627) (hl : l.length ≤ 1099511627) :
    Calls Tryz.prog 128 #[v] w (BytesPost l w) := by
  have HS := Lib.hid hs
  obtain ⟨a, cap, rfl⟩ : ∃ a cap, v = .slice a l.length cap := by obtain ⟨a, c, h, -⟩ := hs; exact ⟨a, c, h⟩
  have HMem := Lib.hid (sumF_mem l)
  have hB0 := Lib.hid (Lib.fresh_isBuilder 110 5 w)
  have HB1 := Lib.hid (show Below w.heap.size w (w.alloc (Obj.cells #[Value.pointer none, Value.slice none 0 0] 110)) from (Below.refl _ _).alloc (Nat.le_refl _) _)
  have hsz : w.heap.size ≤ (w.alloc (Obj.cells #[Value.pointer none, Value.slice none 0 0] 110)).heap.size := by simp
  clear hs
  go_enter Tryz.func128, Tryz.ntmps128
  go_wp2_with fail
  generalize w.alloc (Obj.cells #[Value.pointer none, Value.slice none 0 0] 110) = W at *
  generalize hgw : w.heap.size = B at *
  have HGW := Lib.hid hgw
  clear hgw
  go_loopw [10] (fun v wr => ∃ i : Nat, i ≤ l.length ∧ v = .int .i64 i ∧ Hid (okFs (l.take i) = true) ∧ Hid (IsB B B (linesF (l.take i)) wr) ∧ Hid (Below B w wr) ∧ B ≤ wr.heap.size) (fun v _ => l.length - (RowKit.intOf v).toNat)
  case atStart => exact ⟨0, Nat.zero_le _, rfl, rfl, hB0.out, HB1.out, hsz⟩
  case round =>
    obtain ⟨i, hi, rfl, hok, hI, hB3, hBw⟩ := hrel
    rename World => W3
    have hpl := lines_len (l.take i)
    have hpt := sumF_take l i
    by_cases hlt : i < l.length
    · have hbw : Below w.heap.size w W3 := by rw [HGW.out]; exact hB3.out
      obtain ⟨a', c', e', hcap, hc⟩ := isFlds_below HS.out hbw
      injection e' with e1 _ e2
      subst e1 e2
      obtain ⟨b, o, rfl, hc0, hc1⟩ := hc i (l.getD i ([], [])) (by simp [List.getD, hlt])
      have hm := HMem.out (l.getD i ([], [])) (by simp [List.getD, hlt])
      have hmm : l.getD i ([], []) ∈ l := by simp [List.getD, hlt]
      have htk : l.take (i + 1) = l.take i ++ [l.getD i ([], [])] := by
        rw [List.take_succ_eq_append_getElem hlt]; simp [List.getD, hlt]
      have HTK := Lib.hid htk
      have HMM := Lib.hid hmm
      clear hc htk hmm hbw
      generalize l.getD i ([], []) = f at *
      obtain ⟨n, x⟩ := f
      have hnz := size_mkS n
      have hxz := size_mkS x
      simp only at hm hc0 hc1
      have HC := fun W : World => check_any' (mkS n) (mkS x) W (by omega) (by omega)
      rw [bs_mkS, bs_mkS] at HC
      have hBlt := isB_lt hI.out
      have hgB : W3.heap.size ≠ B := by omega
      have HF0 := Lib.hid (Two.new W3 31 (.string (mkS n)) (.string (mkS x)))
      have hb0 : Below W3.heap.size W3 (W3.alloc (Obj.cells #[.string (mkS n), .string (mkS x)] 31)) := (Below.refl _ _).alloc (Nat.le_refl _) _
      have HI0 := Lib.hid (isB_below hI.out hb0)
      have HB0 := Lib.hid (hB3.out.trans (hb0.mono hBw))
      have hq0 := HF0.out.c0
      have hq1 := HF0.out.c1
      have HMZ := Lib.hid hnz
      have HXZ := Lib.hid hxz
      have hs0 : B ≤ (W3.alloc (Obj.cells #[.string (mkS n), .string (mkS x)] 31)).heap.size := by simp; omega
      clear hb0 hnz hxz
      cases hk : okF n x
      · rw [okE_no _ _ hk] at HC
        have hno := okFs_take_no l (n, x) HMM.out hk
        have e1 : byN l = [] := by unfold byN; rw [hno]; rfl
        have e2 : byE l = 4 := by unfold byE; rw [hno]; rfl
        have E1 := Lib.hid e1
        have E2 := Lib.hid e2
        have HC2 := Lib.hid HC
        clear HC hk hno e1 e2
        go_wp2_with fail
        generalize W3.alloc (Obj.cells #[.string (mkS n), .string (mkS x)] 31) = W4 at *
        refine (HC2.out _).mono ?_
        rintro e w5 ⟨rfl, hb⟩
        have HB5 := Lib.hid (HB0.out.trans (hb.mono hs0))
        clear hb
        go_wp2_with fail
        go_ret2
        exact ⟨by rw [E1.out, E2.out]; rfl, by rw [HGW.out]; exact HB5.out⟩
      · rw [okE_ok _ _ hk] at HC
        have hok2 := okFs_snoc _ (n, x) hok.out hk
        rw [← HTK.out] at hok2
        have hln := lines_snoc (l.take i) (n, x)
        rw [← HTK.out] at hln
        simp only at hln
        have HLN := Lib.hid hln
        have HOK := Lib.hid hok2
        have HC2 := Lib.hid HC
        clear HC hk hok2 hln
        generalize linesF (l.take i) = P at *
        go_wp2_with fail
        generalize W3.alloc (Obj.cells #[.string (mkS n), .string (mkS x)] 31) = W4 at *
        generalize W3.heap.size = g at *
        refine (HC2.out _).mono ?_
        rintro e w5 ⟨rfl, hb⟩
        have HB5 := Lib.hid (HB0.out.trans (hb.mono hs0))
        have HF5 := HF0.out.later hb
        have hI5 := isB_below HI0.out hb
        have HX5 := Lib.hid hb.size
        have p0 := HF5.c0
        have HFF5 := Lib.hid HF5
        have H1 := Lib.hid (writeString B B P (mkS n) w5 hI5 (by have := HMZ.out; omega) (Nat.le_trans hs0 hb.size))
        clear hb HF5 hI5
        have hs5 := Nat.le_trans hs0 HX5.out
        go_wp2_with fail
        refine H1.out.mono ?_
        rintro e w6 ⟨rfl, hi6, hb6, ho6⟩
        have HFF6 := Lib.hid (HFF5.out.others ho6 (by decide) hgB)
        have HB6 := Lib.hid (HB5.out.trans hb6)
        have hs6 := Nat.le_trans hs5 hb6.size
        have H2 := Lib.hid (writeString B B _ ⟨#[58, 32]⟩ w6 hi6 (by rw [List.length_append, length_bs]; have := HMZ.out; have e1 : (ByteArray.mk #[58, 32]).size = 2 := rfl; omega) hs6)
        clear hi6 hb6 ho6 p0
        go_wp2_with fail
        refine H2.out.mono ?_
        rintro e w7 ⟨rfl, hi7, hb7, ho7⟩
        have HFF7 := HFF6.out.others ho7 (by decide) hgB
        have p1 := HFF7.c1
        have HFF7 := Lib.hid HFF7
        have HB7 := Lib.hid (HB6.out.trans hb7)
        have hs7 := Nat.le_trans hs6 hb7.size
        have H3 := Lib.hid (writeString B B _ (mkS x) w7 hi7 (by simp only [List.length_append, length_bs]; have := HMZ.out; have := HXZ.out; have e1 : (ByteArray.mk #[58, 32]).size = 2 := rfl; omega) hs7)
        clear hi7 hb7 ho7
        go_wp2_with fail
        refine H3.out.mono ?_
        rintro e w8 ⟨rfl, hi8, hb8, ho8⟩
        have HB8 := Lib.hid (HB7.out.trans hb8)
        have hs8 := Nat.le_trans hs7 hb8.size
        have H4 := Lib.hid (writeString B B _ ⟨#[13, 10]⟩ w8 hi8 (by simp only [List.length_append, length_bs]; have := HMZ.out; have := HXZ.out; have e1 : (ByteArray.mk #[58, 32]).size = 2 := rfl; have e2 : (ByteArray.mk #[13, 10]).size = 2 := rfl; omega) hs8)
        clear hi8 hb8 ho8 p1
        go_wp2_with fail
        refine H4.out.mono ?_
        rintro e w9 ⟨rfl, hi9, hb9, ho9⟩
        have HB9 := Lib.hid (HB8.out.trans hb9)
        have hs9 := Nat.le_trans hs8 hb9.size
        have HI9 : Hid (IsB B B (linesF (l.take (i + 1))) w9) := by
          show IsB B B (linesF (l.take (i + 1))) w9
          rw [HLN.out]
          exact hi9
        clear hi9 hb9 ho9
        go_wp2_with fail
        exact ⟨⟨i + 1, by omega, by go_num, HOK, HI9, HB9, hs9⟩, by simp [RowKit.intOf]; omega⟩
    · have hil : l.take i = l := List.take_of_length_le (by omega)
      rw [hil] at hok hI
      have e1 : byN l = linesF l := by unfold byN; rw [hok.out]; rfl
      have e2 : byE l = 0 := by unfold byE; rw [hok.out]; rfl
      have E1 := Lib.hid e1
      have E2 := Lib.hid e2
      have H3 := Lib.hid (Tryz.Builder_String_any B B (linesF l) W3 hI.out hBw)
      clear hil e1 e2
      go_wp2_with fail
      refine H3.out.mono ?_
      rintro e w5 ⟨rfl, hb5⟩
      have HB5 := Lib.hid (hB3.out.trans hb5)
      clear hb5
      go_wp2_with fail
      go_ret2
      exact ⟨by rw [E1.out, E2.out]; rfl, by rw [HGW.out]; exact HB5.out⟩
end Tk
end Go.Proofs.YthooghgiokgdhaaGreatDoor
namespace Go.Proofs.YthooghgiokgdhaaGreatDoor
namespace Tk

abbrev Tg := Bool × Bs
/-- may the byte stand between the quotes of a tag? -/
def vch (c : UInt8) : Bool := !(decide ((c.toNat : Int) ≤ 32) || ((c.toNat : Int) == 34 || (c.toNat : Int) == 127))
def opq (l : Bs) : Bool := l.all vch
def tgW (s : Bs) : Bool := decide (s.take 2 = [87, 47])
def tgQ (s : Bs) : Bs := if tgW s then s.drop 2 else s
/-- is the rest behind the first quote, with one more quote, a value? -/
def tgC (r : Bs) : Bool := decide (r.drop (r.length - 1) = [34])
def tgV (r : Bs) : Bs := r.take (r.length - 1)
def tgB (q : Bs) : Bool := decide (q.take 1 = [34]) && (tgC (q.drop 1) && opq (tgV (q.drop 1)))
def tgO (s : Bs) : Bool := tgB (tgQ s)
def tgG (s : Bs) : Tg := if tgO s then (tgW s, tgV ((tgQ s).drop 1)) else (false, [])
def tgE (s : Bs) : Int := if tgO s then 0 else 4
def tgT (t : Tg) : Bs := if opq t.2 then (if t.1 then [87, 47] else []) ++ ([34] ++ t.2 ++ [34]) else []
def tgTE (t : Tg) : Int := if opq t.2 then 0 else 4

theorem pre2_tag (s : Bs) : Lib.hasPrefix s [87, 47] = tgW s ∧ Lib.trimPrefix s [87, 47] = tgQ s := by
  have h : Lib.hasPrefix s [87, 47] = tgW s := by
    unfold Lib.hasPrefix tgW
    match s with
    | [] => rfl
    | [a] => simp [List.isPrefixOf]
    | a :: b :: t =>
      show ((87 == a) && ((47 == b) && true)) = decide ([a, b] = [87, 47])
      by_cases h1 : a = 87
      · by_cases h2 : b = 47
        · subst h1 h2; rfl
        · rw [decide_eq_false (by simp [h2]), beq_eq_false_iff_ne.2 (fun e => h2 e.symm)]; simp
      · rw [decide_eq_false (by simp [h1]), beq_eq_false_iff_ne.2 (fun e => h1 e.symm)]; simp
  refine ⟨h, ?_⟩
  unfold Lib.trimPrefix tgQ
  rw [h]; rfl
def op1 (q : Bs) : Bool := decide (q.take 1 = [34])
def cp1 (q : Bs) : Bs := if op1 q then q.drop 1 else q
theorem pre1_tag (q : Bs) : Lib.hasPrefix q [34] = op1 q ∧ Lib.trimPrefix q [34] = cp1 q := by
  have h : Lib.hasPrefix q [34] = op1 q := by
    unfold Lib.hasPrefix op1
    match q with
    | [] => rfl
    | a :: t =>
      show ((34 == a) && true) = decide ([a] = [34])
      by_cases h1 : a = 34
      · subst h1; rfl
      · rw [decide_eq_false (by simp [h1]), beq_eq_false_iff_ne.2 (fun e => h1 e.symm)]; simp
  refine ⟨h, ?_⟩
  unfold Lib.trimPrefix cp1
  rw [h]; rfl
def cs1 (r : Bs) : Bs := if tgC r then tgV r else r
theorem suf1_tag (r : Bs) : Lib.hasSuffix r [34] = tgC r ∧ Lib.trimSuffix r [34] = cs1 r := by
  have h : Lib.hasSuffix r [34] = tgC r := by
    unfold Lib.hasSuffix tgC
    rw [Bool.eq_iff_iff, decide_eq_true_iff, List.isSuffixOf_iff_suffix, List.suffix_iff_eq_drop]
    simp [eq_comm]
  refine ⟨h, ?_⟩
  unfold Lib.trimSuffix cs1 tgV
  rw [h]; rfl
theorem tg_yes (s : Bs) (h1 : op1 (tgQ s) = true) (h2 : tgC (cp1 (tgQ s)) = true) (h3 : opq (cs1 (cp1 (tgQ s))) = true) : tgO s = true ∧ tgG s = (tgW s, cs1 (cp1 (tgQ s))) ∧ tgE s = 0 := by
  have e1 : cp1 (tgQ s) = (tgQ s).drop 1 := by unfold cp1; rw [if_pos h1]
  rw [e1] at h2 h3 ⊢
  have e2 : cs1 ((tgQ s).drop 1) = tgV ((tgQ s).drop 1) := by unfold cs1; rw [if_pos h2]
  rw [e2] at h3 ⊢
  have ho : tgO s = true := by
    unfold tgO tgB
    unfold op1 at h1
    rw [h1, h2, h3]; rfl
  refine ⟨ho, ?_, ?_⟩
  · unfold tgG; rw [if_pos ho]
  · unfold tgE; rw [if_pos ho]
theorem tg_no (s : Bs) (h : tgO s = false) : tgG s = (false, []) ∧ tgE s = 4 := by
  unfold tgG tgE; rw [h]; exact ⟨rfl, rfl⟩
theorem tg_no1 (s : Bs) (h1 : op1 (tgQ s) = false) : tgO s = false := by
  unfold op1 at h1; unfold tgO tgB; rw [h1]; rfl
theorem tg_no2 (s : Bs) (h1 : op1 (tgQ s) = true) (h2 : tgC (cp1 (tgQ s)) = false) : tgO s = false := by
  have e1 : cp1 (tgQ s) = (tgQ s).drop 1 := by unfold cp1; rw [if_pos h1]
  rw [e1] at h2
  unfold tgO tgB; rw [h2]; simp
theorem tg_no3 (s : Bs) (h1 : op1 (tgQ s) = true) (h2 : tgC (cp1 (tgQ s)) = true) (h3 : opq (cs1 (cp1 (tgQ s))) = false) : tgO s = false := by
  have e1 : cp1 (tgQ s) = (tgQ s).drop 1 := by unfold cp1; rw [if_pos h1]
  rw [e1] at h2 h3
  have e2 : cs1 ((tgQ s).drop 1) = tgV ((tgQ s).drop 1) := by unfold cs1; rw [if_pos h2]
  rw [e2] at h3
  unfold tgO tgB; rw [h3]; simp
theorem cs1_len (s : Bs) : (cs1 (cp1 (tgQ s))).length ≤ s.length := by
  have h1 : (tgQ s).length ≤ s.length := by unfold tgQ; split <;> simp
  have h2 : (cp1 (tgQ s)).length ≤ (tgQ s).length := by unfold cp1; split <;> simp
  have h3 : (cs1 (cp1 (tgQ s))).length ≤ (cp1 (tgQ s)).length := by
    unfold cs1 tgV; split
    · rw [List.length_take]; omega
    · exact Nat.le_refl _
  omega
theorem cp1_len (s : Bs) : (cp1 (tgQ s)).length ≤ s.length := by
  have h1 : (tgQ s).length ≤ s.length := by unfold tgQ; split <;> simp
  have h2 : (cp1 (tgQ s)).length ≤ (tgQ s).length := by unfold cp1; split <;> simp
  omega

theorem vch_facts (c : UInt8) (h : vch c = true) : 33 ≤ c.toNat ∧ c ≠ 34 ∧ c ≠ 127 ∧ wh c = false := by
  unfold vch at h
  simp only [Bool.not_eq_true', Bool.or_eq_false_iff, decide_eq_false_iff_not, beq_eq_false_iff_ne] at h
  have h1 : 33 ≤ c.toNat := by omega
  refine ⟨h1, fun e => ?_, fun e => ?_, ?_⟩
  · subst e; exact h.2.1 rfl
  · subst e; exact h.2.2 rfl
  · have e1 : c ≠ 32 := fun e => by subst e; exact absurd h1 (by decide)
    have e2 : c ≠ 9 := fun e => by subst e; exact absurd h1 (by decide)
    simp [wh, e1, e2]

/-- the text of a tag whose value may stand is read as the tag -/
theorem tgT_eq (t : Tg) (h : opq t.2 = true) : tgT t = (if t.1 then [87, 47] else []) ++ ([34] ++ t.2 ++ [34]) := by unfold tgT; rw [if_pos h]
theorem tgB_lit (v : Bs) (h : opq v = true) : tgB ([34] ++ v ++ [34]) = true ∧ tgV (([34] ++ v ++ [34]).drop 1) = v := by
  have e1 : ([34] ++ v ++ [34] : Bs).drop 1 = v ++ [34] := by simp
  have e2 : tgV (v ++ [34]) = v := by unfold tgV; simp
  have e3 : tgC (v ++ [34]) = true := by unfold tgC; simp
  have e4 : ([34] ++ v ++ [34] : Bs).take 1 = [34] := by simp
  refine ⟨?_, by rw [e1, e2]⟩
  unfold tgB
  rw [e1, e2, e3, e4, h]; rfl
theorem tgQ_tgT (t : Tg) (h : opq t.2 = true) : tgW (tgT t) = t.1 ∧ tgQ (tgT t) = [34] ++ t.2 ++ [34] := by
  rw [tgT_eq t h]
  obtain ⟨w, v⟩ := t
  cases w
  · have e : tgW ([] ++ ([34] ++ v ++ [34] : Bs)) = false := by unfold tgW; cases v <;> simp
    refine ⟨e, ?_⟩
    unfold tgQ
    simp only [Bool.false_eq_true, if_false]
    rw [e]; rfl
  · have e : tgW ([87, 47] ++ ([34] ++ v ++ [34] : Bs)) = true := by unfold tgW; simp
    refine ⟨e, ?_⟩
    unfold tgQ
    simp only [if_true]
    rw [e]; simp
theorem tgO_tgT (t : Tg) (h : opq t.2 = true) : tgO (tgT t) = true ∧ tgG (tgT t) = t := by
  obtain ⟨h1, h2⟩ := tgQ_tgT t h
  obtain ⟨h3, h4⟩ := tgB_lit t.2 h
  have e : tgO (tgT t) = true := by unfold tgO; rw [h2]; exact h3
  refine ⟨e, ?_⟩
  unfold tgG
  rw [if_pos e, h1, h2, h4]
theorem tgT_len (t : Tg) : (tgT t).length ≤ t.2.length + 4 := by
  unfold tgT
  split
  · split <;> simp
  · simp
theorem tgT_ne (t : Tg) (h : opq t.2 = true) : tgT t ≠ [] := by
  rw [tgT_eq t h]; cases t.1 <;> simp

/-- parts of a list of texts -/
def prtL (L : List Bs) : List Bs := L.flatMap splitL
def tagsS (P : List Bs) : Bool := decide (P = [[42]])
def tagsE (P : List Bs) : Int := if P = [] then 4 else if P = [[42]] then 0 else if P.all tgO then 0 else 4
def tagsL (P : List Bs) : List Tg := if P = [[42]] then [] else if P.all tgO then P.map tgG else []

/- a list of tags, written in a row -/
theorem closeLen_val : ∀ (v r : Bs), (∀ c ∈ v, c ≠ 92 ∧ c ≠ 34) → closeLen (v ++ 34 :: r) = v.length
  | [], r, _ => closeLen_q r
  | c :: v, r, h => by
    rw [List.cons_append, closeLen_o c _ (h c (by simp)).1 (h c (by simp)).2, closeLen_val v r (fun x hx => h x (by simp [hx]))]
    simp; omega
def plT (t : Tg) : Prop := opq t.2 = true ∧ ∀ c ∈ t.2, c ≠ 92
theorem spl_tag (t : Tg) (h : plT t) (w r : Bs) : spl 0 w (tgT t ++ r) = spl 0 (w ++ tgT t) r := by
  have hv : ∀ c ∈ t.2, c ≠ 92 ∧ c ≠ 34 := fun c hc => ⟨h.2 c hc, (vch_facts c (List.all_eq_true.1 h.1 c hc)).2.1⟩
  have q : ∀ w : Bs, spl 0 w (34 :: (t.2 ++ 34 :: r)) = spl 0 (w ++ ([34] ++ t.2 ++ [34])) r := by
    intro w
    rw [spl, if_neg (by decide), if_pos rfl, spl_close, closeLen_val t.2 r hv]
    have e1 : (t.2 ++ 34 :: r).take (t.2.length + 1) = t.2 ++ [34] := by
      rw [List.take_append, List.take_of_length_le (by omega)]; simp
    have e2 : (t.2 ++ 34 :: r).drop (t.2.length + 1) = r := by
      rw [List.drop_append, List.drop_eq_nil_of_le (by omega)]; simp
    rw [e1, e2]; simp
  rw [tgT_eq t h.1]
  cases t.1
  · have e : (if false = true then [87, 47] else []) ++ ([34] ++ t.2 ++ [34]) ++ r = 34 :: (t.2 ++ 34 :: r) := by simp
    rw [e, q]; simp
  · have e : (if true = true then [87, 47] else []) ++ ([34] ++ t.2 ++ [34]) ++ r = 87 :: 47 :: 34 :: (t.2 ++ 34 :: r) := by simp
    rw [e, spl, if_neg (by decide), if_neg (by decide), spl, if_neg (by decide), if_neg (by decide), q]; simp
theorem neat_tag (t : Tg) (h : opq t.2 = true) : Neat (tgT t) := by
  rw [tgT_eq t h]
  refine ⟨fun c hc => ?_, fun c hc => ?_⟩
  · cases hw : t.1 <;> rw [hw] at hc <;> simp at hc <;> subst hc <;> decide
  · rw [← List.append_assoc, List.getLast?_append] at hc
    have e : (34 : UInt8) = c := by simpa using hc
    subst e; decide
theorem tr_b (l : Bs) : tr (l ++ [32]) = tr l := by
  unfold tr
  rw [List.reverse_append]
  show ((32 :: l.reverse).dropWhile wh).reverse = _
  rw [List.dropWhile_cons, show wh 32 = true by decide, if_pos rfl]
theorem trim_front (m : Bs) (h : Neat m) : trimL (32 :: m) = m := by
  rw [trimL_eq, tr_cons, ← trimL_eq, neat_trim m h]
theorem trim_end (m : Bs) (h : Neat m) : trimL (m ++ [32]) = m := by rw [trimL_eq, tr_b, ← trimL_eq, neat_trim m h]
theorem trim_both (m : Bs) (h : Neat m) : trimL (32 :: (m ++ [32])) = m := by
  rw [trimL_eq, ← List.cons_append, tr_b, ← trimL_eq]; exact trim_front m h

/-- the tags before the cut: each with " , " behind it -/
def txP (l : List Tg) : Bs := l.flatMap fun t => tgT t ++ [32, 44, 32]
/-- the tags behind the cut: each with "," before it -/
def txS (l : List Tg) : Bs := l.flatMap fun t => 44 :: tgT t
theorem add_tag (t : Tg) (h : opq t.2 = true) : addP (tgT t) = [tgT t] := by unfold addP; rw [if_neg (tgT_ne t h)]
theorem parts_txP : ∀ (l : List Tg) (w : Bs), (∀ t ∈ l, plT t) → (w = [] ∨ w = [32]) → parts (spl 0 w (txP l)) = l.map tgT
  | [], w, _, hw => by rcases hw with rfl | rfl <;> decide
  | t :: l, w, h, hw => by
    have ht := h t (by simp)
    have e : txP (t :: l) = tgT t ++ ([32, 44, 32] ++ txP l) := by simp [txP]
    rw [e, spl_tag t ht]
    have e2 : spl 0 (w ++ tgT t) ([32, 44, 32] ++ txP l) = (w ++ tgT t ++ [32]) :: spl 0 [32] (txP l) := by
      show spl 0 _ (32 :: 44 :: 32 :: txP l) = _
      rw [spl, if_neg (by decide), if_neg (by decide), spl, if_pos rfl, spl, if_neg (by decide), if_neg (by decide)]
      rfl
    rw [e2, parts_cons, parts_txP l [32] (fun x hx => h x (by simp [hx])) (.inr rfl)]
    have e3 : trimL (w ++ tgT t ++ [32]) = tgT t := by
      rcases hw with rfl | rfl
      · exact trim_end _ (neat_tag t ht.1)
      · exact trim_both _ (neat_tag t ht.1)
    rw [e3, add_tag t ht.1]; rfl
theorem split_txP (l : List Tg) (h : ∀ t ∈ l, plT t) : splitL (txP l) = l.map tgT := parts_txP l [] h (.inl rfl)
theorem parts_txS : ∀ (l : List Tg) (m : Bs), (∀ t ∈ l, plT t) → Neat m → parts (spl 0 m (txS l)) = addP m ++ l.map tgT
  | [], m, _, hm => by
    show parts (spl 0 m []) = _
    rw [spl, parts_one, neat_trim m hm]; simp
  | t :: l, m, h, hm => by
    have ht := h t (by simp)
    have e : txS (t :: l) = 44 :: (tgT t ++ txS l) := by simp [txS]
    rw [e, spl, if_pos rfl, spl_tag t ht, List.nil_append, parts_cons, neat_trim m hm, parts_txS l (tgT t) (fun x hx => h x (by simp [hx])) (neat_tag t ht.1), add_tag t ht.1]
    simp
theorem split_txS (l : List Tg) (h : ∀ t ∈ l, plT t) : splitL (txS l) = l.map tgT := by
  unfold splitL
  rw [parts_txS l [] h ⟨fun c hc => by simp at hc, fun c hc => by simp at hc⟩]
  simp [addP]
theorem all_tags (l : List Tg) (h : ∀ t ∈ l, plT t) : (l.map tgT).all tgO = true ∧ (l.map tgT).map tgG = l := by
  induction l with
  | nil => exact ⟨rfl, rfl⟩
  | cons t l ih =>
    obtain ⟨h1, h2⟩ := ih (fun x hx => h x (by simp [hx]))
    have ht := tgO_tgT t (h t (by simp)).1
    refine ⟨?_, ?_⟩
    · rw [List.map_cons, List.all_cons, ht.1, h1]; rfl
    · rw [List.map_cons, List.map_cons, ht.2, h2]
theorem star_no : tgO [42] = false := by decide
theorem tgT_star (t : Tg) : tgT t ≠ [42] := by
  intro h
  by_cases ho : opq t.2 = true
  · have := (tgO_tgT t ho).1
    rw [h, star_no] at this; cases this
  · unfold tgT at h; rw [if_neg ho] at h; cases h
theorem tags_back (l : List Tg) (h : ∀ t ∈ l, plT t) (hne : l ≠ []) : tagsS (l.map tgT) = false ∧ tagsE (l.map tgT) = 0 ∧ tagsL (l.map tgT) = l := by
  have h0 : l.map tgT ≠ [] := by simpa using hne
  have h1 : l.map tgT ≠ [[42]] := by
    intro e
    cases l with
    | nil => cases e
    | cons t l => rw [List.map_cons] at e; injection e with e1 _; exact tgT_star t e1
  obtain ⟨h2, h3⟩ := all_tags l h
  refine ⟨by unfold tagsS; rw [decide_eq_false h1], ?_, ?_⟩
  · unfold tagsE; rw [if_neg h0, if_neg h1, if_pos h2]
  · unfold tagsL; rw [if_neg h1, if_pos h2, h3]
theorem tags_star (a b : List Tg) (h : a ≠ [] ∨ b ≠ []) : tagsS (a.map tgT ++ [[42]] ++ b.map tgT) = false ∧ tagsE (a.map tgT ++ [[42]] ++ b.map tgT) = 4 := by
  have h1 : a.map tgT ++ [[42]] ++ b.map tgT ≠ [[42]] := by
    intro e
    have := congrArg List.length e
    simp at this
    rcases h with h | h
    · exact h (List.eq_nil_of_length_eq_zero (by omega))
    · exact h (List.eq_nil_of_length_eq_zero (by omega))
  have h0 : a.map tgT ++ [[42]] ++ b.map tgT ≠ [] := by simp
  refine ⟨by unfold tagsS; rw [decide_eq_false h1], ?_⟩
  unfold tagsE
  rw [if_neg h0, if_neg h1, if_neg]
  rw [List.all_append, List.all_append, List.all_cons, star_no]
  simp
theorem split_star : splitL [42] = [[42]] := by decide
end Tk
end Go.Proofs.YthooghgiokgdhaaGreatDoor
