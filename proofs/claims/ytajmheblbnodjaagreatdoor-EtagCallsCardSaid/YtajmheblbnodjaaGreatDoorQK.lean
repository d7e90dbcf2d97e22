/- FldI FldJ FldK FldP FldN FldQ FldT, put together. -/
import Derived.Test.YtajmheblbnodjaaGreatDoorQJ
import Derived.Laws.IdiomCopy
import Derived.Lib.SliceRun
import Derived.Test.YtajmheblbnodjaaGreatDoorQB
import Derived.Laws.StructEq
import Derived.IntWalk
import Derived.Deep.QuietTactic
import Derived.BigQuiet
import Derived.Deep.RegionHeld3
import Derived.Test.YtajmheblbnodjaaGreatDoorQD
namespace Go.Proofs.YtajmheblbnodjaaGreatDoor
open Go.RowKit
namespace Tk

theorem fcells_put : ∀ (a : List (Bs × Bs)) (f : Bs × Bs) (b : List (Bs × Bs)) (n x : Bs), ((fcells (a ++ f :: b)).set (a.length * 2) (.string (mkS n))).set (a.length * 2 + 1) (.string (mkS x)) = fcells (a ++ (n, x) :: b)
  | [], f, b, n, x => by simp [fcells]
  | g :: a, f, b, n, x => by
    have := fcells_put a f b n x
    unfold fcells at *
    rw [List.cons_append, List.cons_append, List.flatMap_cons, List.flatMap_cons, List.length_cons, show (a.length + 1) * 2 = a.length * 2 + 2 by omega]
    simpa using this
theorem fcells_mid (a : List (Bs × Bs)) (f : Bs × Bs) (b : List (Bs × Bs)) : (fcells (a ++ f :: b))[a.length * 2]? = some (.string (mkS f.1)) ∧ (fcells (a ++ f :: b))[a.length * 2 + 1]? = some (.string (mkS f.2)) :=
  fcells_get _ _ _ (by simp)
theorem made_fcells (n : Nat) : (madeCells #[Value.string .empty, Value.string .empty] (n * 2)).toList = fcells (List.replicate n ([], [])) := by
  apply List.ext_getElem?
  intro j
  by_cases hj : j < n * 2
  · have hl : (madeCells #[Value.string .empty, Value.string .empty] (n * 2)).toList[j]? = some (.string (mkS [])) := by
      rcases Nat.mod_two_eq_zero_or_one j with h | h <;> simp [madeCells, hj, h] <;> rfl
    rw [hl]
    rcases Nat.mod_two_eq_zero_or_one j with h | h
    · obtain ⟨t, rfl⟩ : ∃ t, j = t * 2 := ⟨j / 2, by omega⟩
      exact (fcells_get (List.replicate n ([], [])) t ([], []) (by rw [List.getElem?_replicate, if_pos (by omega)])).1.symm
    · obtain ⟨t, rfl⟩ : ∃ t, j = t * 2 + 1 := ⟨j / 2, by omega⟩
      exact (fcells_get (List.replicate n ([], [])) t ([], []) (by rw [List.getElem?_replicate, if_pos (by omega)])).2.symm
  · rw [List.getElem?_eq_none (by simp [madeCells]; omega), List.getElem?_eq_none (by rw [fcells_len]; simp; omega)]

theorem own_keep2f {w w' : World} {B : Nat} {v : Value} {n : Nat} {xs : List Value} {e : TypeId} (h : w.ownsRow B e 2 v n xs) (hb : Below w.heap.size w w') : w'.ownsRow B e 2 v n xs :=
  World.ownsRow.kept h (row := none) ⟨hb.os, hb.tape, hb.output, hb.size, fun k hk _ => hb.block k hk⟩ (by cases h : v.ownBlock <;> simp)
theorem own_put2 {w : World} {B g cap n : Nat} {a b : List (Bs × Bs)} {f : Bs × Bs} (h : w.ownsRow B 31 2 (.slice (some ⟨g, 0, none⟩) n cap) n (fcells (a ++ f :: b))) (s x : Bs) :
    ((w.setCell ⟨g, a.length * 2, none⟩ (.string (mkS s))).setCell ⟨g, a.length * 2 + 1, none⟩ (.string (mkS x))).ownsRow B 31 2 (.slice (some ⟨g, 0, none⟩) n cap) n (fcells (a ++ (s, x) :: b)) := by
  have h1 := (h.stored (a.length * 2) (.string (mkS s))).1
  have h2 := (h1.stored (a.length * 2 + 1) (.string (mkS x))).1
  rw [fcells_put] at h2
  exact h2

def OwnPost (l : List (Bs × Bs)) (w : World) (e : Ending) (w' : World) : Prop :=
  ∃ v', e = .returned v' ∧ w'.ownsRow w.heap.size 31 2 v' l.length (fcells l) ∧ Below w.heap.size w w'

set_option maxHeartbeats 8000000 in
set_option maxRecDepth 100000 in
theorem copied_any (v : Value) (l : List (Bs × Bs)) (w : World) (hs : IsFlds w v l) (hz : ∀ f ∈ l, f.1.length ≤ 1099511627776 ∧ f.2.length ≤ 1099511627776) (hl : l.length ≤ 1048576) :
    Calls Tryz.prog 164 #[v] w (OwnPost l w) := by
  obtain ⟨i0, hi0, hz0, hz1, hz2⟩ := info_parts fldInfo
  have HS := Lib.hid hs
  have HZ := Lib.hid hz
  obtain ⟨a, cap, rfl⟩ : ∃ a cap, v = .slice a l.length cap := by obtain ⟨a, c, h, -⟩ := hs; exact ⟨a, c, h⟩
  clear hs hz
  go_enter Tryz.func164, Tryz.ntmps164
  go_wp2_with (refine wpList_make_full w rfl _ _ 22 rfl w.heap.size 31 i0 (.agg #[.string .empty, .string .empty]) 2 Tryz.underlying22 hi0 hz0 hz1 .i64 .i64 _ _ l.length rfl rfl rfl rfl ?c1 ?c2 (Nat.le_refl _) ?_)
  case c1 => rw [hz2]; omega
  case c2 => unfold maxLen; omega
  intro w1 ho hg
  rw [made_fcells] at ho
  have HO0 := Lib.hid ho
  have HB0 := Lib.hid (show Below w.heap.size w w1 from ⟨hg.os, hg.tape, hg.output, hg.size, fun k hk => hg.block k hk (by simp)⟩)
  clear ho hg
  go_wp2_with fail
  go_loopw [11] (fun vi wr => ∃ i : Nat, i ≤ l.length ∧ vi = .int .i64 i ∧ Hid (wr.ownsRow w.heap.size 31 2 (.slice (some ⟨w.heap.size, 0, none⟩) l.length l.length) l.length (fcells (l.take i ++ List.replicate (l.length - i) ([], [])))) ∧ Hid (Below w.heap.size w wr)) (fun vi _ => l.length - (RowKit.intOf vi).toNat)
  case atStart => exact ⟨0, Nat.zero_le _, rfl, HO0, HB0⟩
  case round =>
    obtain ⟨i, hi, rfl, HO, HB⟩ := hrel
    rename World => W
    by_cases hlt : i < l.length
    · obtain ⟨a', c', e', hcap, hc⟩ := isFlds_below HS.out HB.out
      injection e' with e1 _ e2
      subst e1 e2
      obtain ⟨b, o, rfl, hc0, hc1⟩ := hc i (l.getD i ([], [])) (by simp [List.getD, hlt])
      have hm := HZ.out (l.getD i ([], [])) (by simp [List.getD, hlt])
      have htk : l.take (i + 1) = l.take i ++ [l.getD i ([], [])] := by
        rw [List.take_succ_eq_append_getElem hlt]; simp [List.getD, hlt]
      have hlen : (l.take i).length = i := by simp; omega
      have hrep : List.replicate (l.length - i) (([], []) : Bs × Bs) = ([], []) :: List.replicate (l.length - (i + 1)) ([], []) := by
        rw [show l.length - i = (l.length - (i + 1)) + 1 by omega]; rfl
      rw [hrep] at HO
      have HTK := Lib.hid htk
      have HLen := Lib.hid hlen
      clear hc htk hlen hrep
      generalize l.getD i ([], []) = f at *
      obtain ⟨n, x⟩ := f
      simp only at hm hc0 hc1
      have HC := Lib.hid (fun W : World => fown_any n x W hm.1 hm.2)
      have HF0 := Lib.hid (Two.new W 31 (.string (mkS n)) (.string (mkS x)))
      have hb0 : Below W.heap.size W (W.alloc (Obj.cells #[.string (mkS n), .string (mkS x)] 31)) := (Below.refl _ _).alloc (Nat.le_refl _) _
      have HO1 := Lib.hid (own_keep2f HO.out hb0)
      have HB1 := Lib.hid (HB.out.trans (hb0.mono HB.out.size))
      have hq0 := HF0.out.c0
      have hq1 := HF0.out.c1
      have g0 : (0 : Int) ≤ (i : Int) := by omega
      have g1 : (i : Int) < (l.length : Int) := by omega
      have hbsz := HB.out.size
      have hs0 : w.heap.size ≤ (W.alloc (Obj.cells #[.string (mkS n), .string (mkS x)] 31)).heap.size := by simp; omega
      clear hb0 hbsz
      go_wp2_with fail
      generalize W.alloc (Obj.cells #[.string (mkS n), .string (mkS x)] 31) = W4 at *
      generalize W.heap.size = g at *
      refine (HC.out _).mono ?_
      rintro e w5 ⟨rfl, hb⟩
      have ho5 := own_keep2f HO1.out hb
      have HB5 := Lib.hid (HB1.out.trans (hb.mono hs0))
      have k0 := ho5.cellAt (i * 2) (by omega)
      have k1 := ho5.cellAt (i * 2 + 1) (by omega)
      have hmid := fcells_mid (l.take i) ([], []) (List.replicate (l.length - (i + 1)) ([], []))
      rw [HLen.out] at hmid
      rw [hmid.1] at k0
      rw [hmid.2] at k1
      have f0 := ho5.frozenAt (i * 2)
      have f1 := ho5.frozenAt (i * 2 + 1)
      have HO5 := Lib.hid ho5
      have k2 : (w5.setCell ⟨w.heap.size, i * 2, none⟩ (.string (mkS n))).cell? ⟨w.heap.size, i * 2 + 1, none⟩ = some (.string (mkS [])) := by
        rw [World.cell?_setCell_other (w := w5) (a := ⟨w.heap.size, i * 2, none⟩) (b := ⟨w.heap.size, i * 2 + 1, none⟩) (h := by intro e; injection e with _ e2; omega)]; exact k1
      clear hb ho5 hmid
      go_wp2_with fail
      have hst := own_put2 (a := l.take i) HO5.out n x
      rw [HLen.out] at hst
      refine ⟨⟨i + 1, hlt, by go_num, ?_, ?_⟩, by simp [RowKit.intOf]; omega⟩
      · show World.ownsRow _ _ _ _ _ _ _
        rw [HTK.out, List.append_assoc]
        exact hst
      · exact (HB5.out.setCell (p := ⟨w.heap.size, i * 2, none⟩) (Nat.le_refl _) _).setCell (p := ⟨w.heap.size, i * 2 + 1, none⟩) (Nat.le_refl _) _
    · obtain rfl : i = l.length := by omega
      have hfin := HO.out
      rw [Nat.sub_self, List.take_length, List.replicate_zero, List.append_nil] at hfin
      have HF := Lib.hid hfin
      clear hfin
      go_wp2_with fail
      go_ret
      exact ⟨_, rfl, HF.out, HB.out⟩
end Tk
end Go.Proofs.YtajmheblbnodjaaGreatDoor
namespace Go.Proofs.YtajmheblbnodjaaGreatDoor
open Go.RowKit
namespace Tk

theorem isFlds_nil_cap {w : World} {v : Value} {B n : Nat} {xs : List Value} {e : TypeId} (h : w.ownsRow B e 2 v n xs) : ∀ m c, v = .slice none m c → c = 0 := by
  rintro m c rfl
  rcases h.2 with ⟨hv, -⟩ | ⟨g, cap, cur, hv, _⟩
  · injection hv
  · injection hv with e1; cases e1

set_option maxHeartbeats 2000000 in
set_option maxRecDepth 100000 in
theorem sclone_any (v : Value) (l : List (Bs × Bs)) (w : World) (hs : IsFlds w v l) (hnl : ∀ n c, v = .slice none n c → c = 0) (hl : l.length ≤ 1048576) :
    Calls Tryz.prog 166 #[v] w (OwnPost l w) := by
  have HS := Lib.hid hs
  have HNL := Lib.hid hnl
  obtain ⟨a, cap, rfl⟩ : ∃ a cap, v = .slice a l.length cap := by obtain ⟨a, c, h, -⟩ := hs; exact ⟨a, c, h⟩
  rcases a with _ | ad
  · have hl0 : l = [] := by
      obtain ⟨a', c', e, -, hc⟩ := hs
      injection e with e1 _ _
      subst e1
      cases l with
      | nil => rfl
      | cons f t => obtain ⟨b, o, e, -⟩ := hc 0 f rfl; cases e
    subst hl0
    have hq : ∀ W : World, (binOp .eql 22 (.slice none 0 cap) (.slice none 0 0)).run Tryz.prog W = .ok (.bool true) W := fun W => Lib.run_eql_slice_nil W _ _ _ _ _ _ _ Tryz.underlying22
    clear hs hnl
    go_enter Tryz.func166, Tryz.ntmps166
    go_wp2_with fail
    go_ret
    exact ⟨_, rfl, World.ownsRow_nil _ _ _ _, Below.refl _ _⟩
  · have hq : ∀ W : World, (binOp .eql 22 (.slice (some ad) l.length cap) (.slice none 0 0)).run Tryz.prog W = .ok (.bool false) W := fun W => Lib.run_eql_slice_nil W _ _ _ _ _ _ _ Tryz.underlying22
    clear hs hnl
    go_enter Tryz.func166, Tryz.ntmps166
    have ho := World.ownsRow_lit (base := w.heap.size) (e := 31) (size := 2) w #[] 0 (Nat.le_refl _) (by decide) rfl
    have hb0 : Below w.heap.size w (w.alloc (Obj.cells #[] 31)) := (Below.refl _ _).alloc (Nat.le_refl _) _
    have HF := Lib.hid (isFlds_below HS.out hb0)
    have HB0 := Lib.hid hb0
    have HO := Lib.hid ho
    clear ho hb0
    go_wp2_with (at_builtin; refine joinF_guarded (by rfl) _ _ rfl w.heap.size _ _ [] l rfl rfl HO.out HF.out HNL.out ?c1 ?c2 ?c3 ?_)
    intro v' w' ho' hg'
    have HB1 := Lib.hid (HB0.out.trans (below_of_grownF hg' HO.out (by simp)))
    have HO1 := Lib.hid ho'
    clear ho' hg'
    go_wp2_with fail
    go_ret
    exact ⟨v', rfl, HO1.out, HB1.out⟩

/-- the cells that clear writes into n fields -/
def zeros2 (n : Nat) : List Value := (Builtin.zeroCells #[.string .empty, .string .empty] n).toList
theorem zeros2_len (n : Nat) : (zeros2 n).length = n * 2 := by simp [zeros2, Builtin.zeroCells]
theorem zeros2_one (n : Nat) : ∀ u ∈ zeros2 n, u.oneCell' = true := by
  intro u hu
  simp [zeros2, Builtin.zeroCells] at hu
  obtain ⟨j, -, rfl⟩ := hu
  rcases Nat.mod_two_eq_zero_or_one j with h | h <;> simp [h] <;> rfl
theorem run_clear2 (w : World) (ty : TypeId) (b o n c : Nat) (hn : 0 < n) (hc : ∀ j, j < n * 2 → (w.cell? ⟨b, o + j, none⟩).isSome = true) (hf : ∀ j, j < n * 2 → w.frozen? ⟨b, o + j, none⟩ = false) :
    (Builtin.clear_ #[22] ty #[.slice (some ⟨b, o, none⟩) n c]).run Tryz.prog w = .ok (.tuple #[]) (w.setCells b o (zeros2 n)) := by
  have hst := run_storeCells_cells (P := Tryz.prog) b o (zeros2 n) 0 w (by rw [zeros2_len]; simpa using hc) (by rw [zeros2_len]; simpa using hf) (zeros2_one n)
  simp only [Nat.add_zero] at hst
  obtain ⟨m, rfl⟩ : ∃ m, n = m + 1 := ⟨n - 1, by omega⟩
  have hst2 : (storeCells ⟨b, o, none⟩ (Builtin.zeroCells (Value.agg #[Value.string ⟨#[]⟩, Value.string ⟨#[]⟩]).cells (m + 1)).toList).run Tryz.prog w = .ok () (w.setCells b o (zeros2 (m + 1))) := hst
  simp [Builtin.clear_, run_underlying Tryz.underlying22]
  rw [hst2]
  rfl
theorem below_setC {B b : Nat} {a : World} (hb : B ≤ b) : ∀ (vs : List Value) (o : Nat) (w : World), Below B a w → Below B a (w.setCells b o vs)
  | [], _, _, h => h
  | v :: vs, o, _, h => below_setC hb vs (o + 1) _ (h.setCell (p := ⟨b, o, none⟩) hb v)
end Tk
end Go.Proofs.YtajmheblbnodjaaGreatDoor
namespace Go.Proofs.YtajmheblbnodjaaGreatDoor
open Go.RowKit
namespace Tk

/-- the fields of other names -/
def delF (name : Bs) (l : List (Bs × Bs)) : List (Bs × Bs) := l.filter fun f => !isN name f
theorem delF_snoc (name : Bs) (l : List (Bs × Bs)) (f : Bs × Bs) : delF name (l ++ [f]) = delF name l ++ (if isN name f then [] else [f]) := by
  unfold delF
  cases h : isN name f <;> simp [h]
theorem delF_all (name : Bs) (l : List (Bs × Bs)) (h : ∀ f ∈ l, isN name f = false) : delF name l = l := by
  unfold delF
  rw [List.filter_eq_self]
  intro f hf
  rw [h f hf]; rfl
theorem delF_len (name : Bs) (l : List (Bs × Bs)) : (delF name l).length ≤ l.length := List.length_filter_le _ _
theorem find_hit (name : Bs) (l : List (Bs × Bs)) (h : l.findIdx (isN name) < l.length) : isN name (l.getD (l.findIdx (isN name)) ([], [])) = true := by
  have := List.findIdx_getElem (w := h)
  simpa [List.getD, h] using this
theorem find_before (name : Bs) (l : List (Bs × Bs)) : ∀ f ∈ l.take (l.findIdx (isN name)), isN name f = false := by
  intro f hf
  rw [List.mem_take_iff_getElem] at hf
  obtain ⟨j, hj, rfl⟩ := hf
  have := List.not_of_lt_findIdx (p := isN name) (xs := l) (i := j) (by omega)
  simpa using this
theorem find_none (name : Bs) (l : List (Bs × Bs)) (h : ¬ l.findIdx (isN name) < l.length) : ∀ f ∈ l, isN name f = false := by
  have : l.findIdx (isN name) = l.length := by
    have := List.findIdx_le_length (p := isN name) (xs := l); omega
  rwa [List.findIdx_eq_length] at this

/-- what DeleteFunc has done when it has gone through j fields and kept i -/
def Half (wr : World) (B gr cap : Nat) (name : Bs) (l : List (Bs × Bs)) (i j : Nat) : Prop :=
  ∃ K R : List (Bs × Bs), K = delF name (l.take j) ∧ K.length = i ∧ R.length = j - i ∧ wr.ownsRow B 31 2 (.slice (some ⟨gr, 0, none⟩) l.length cap) l.length (fcells (K ++ R ++ l.drop j))

def DelPost (B : Nat) (name : Bs) (l : List (Bs × Bs)) (w : World) (e : Ending) (w' : World) : Prop :=
  ∃ v', e = .returned v' ∧ IsFlds w' v' (delF name l) ∧ Below B w w'

set_option maxHeartbeats 8000000 in
set_option maxRecDepth 100000 in
theorem delf_any (v : Value) (l : List (Bs × Bs)) (name : Bs) (g B : Nat) (w : World) (ho : w.ownsRow B 31 2 v l.length (fcells l)) (hB : B ≤ w.heap.size) (hg : HasN w g name) (hne : v.ownBlock ≠ some g)
    (hz : ∀ f ∈ l, f.1.length ≤ 1099511627776 ∧ f.2.length ≤ 1099511627776) (hn : name.length ≤ 1099511627776) (hl : l.length ≤ 1048576) :
    Calls Tryz.prog 165 #[v, namedV g] w (DelPost B name l w) := by
  have HIx := index_any v g name l w (isFlds_own ho) hg hz hn hl
  have HZ := Lib.hid hz
  have HO := Lib.hid ho
  have HG := Lib.hid hg
  by_cases hidx : l.findIdx (isN name) < l.length
  · obtain ⟨gr, cap, hgr, hcap, rfl⟩ : ∃ gr cap, B ≤ gr ∧ l.length ≤ cap ∧ v = .slice (some ⟨gr, 0, none⟩) l.length cap := by
      rcases ho.2 with ⟨hv, hn⟩ | ⟨gr, cap, cur, hv, hb, hg, hcap, -⟩
      · omega
      · exact ⟨gr, cap, hb, hcap, hv⟩
    have hgne : gr ≠ g := by intro e; subst e; exact hne rfl
    have hix : idxF name l = (l.findIdx (isN name) : Int) := by unfold idxF; rw [if_pos hidx]
    rw [hix] at HIx
    have h1 := find_hit name l hidx
    have h2 := find_before name l
    clear hix ho hg hz hne
    generalize l.findIdx (isN name) = i0 at *
    have htk : l.take (i0 + 1) = l.take i0 ++ [l.getD i0 ([], [])] := by
      rw [List.take_succ_eq_append_getElem hidx]; simp [List.getD, hidx]
    have hdr : l.drop i0 = l.getD i0 ([], []) :: l.drop (i0 + 1) := by rw [List.drop_eq_getElem_cons hidx]; simp [List.getD, hidx]
    have HH0 : Hid (∀ W, W.ownsRow B 31 2 (.slice (some ⟨gr, 0, none⟩) l.length cap) l.length (fcells l) → Half W B gr cap name l i0 (i0 + 1)) := by
      intro W hW
      refine ⟨l.take i0, [l.getD i0 ([], [])], ?_, by simp; omega, by simp, ?_⟩
      · rw [htk, delF_snoc, h1, delF_all name _ h2]; simp
      · rw [← htk, List.take_append_drop]; exact hW
    have HI2 := Lib.hid HIx
    have m1 : ¬ ((i0 : Int) = -1) := by omega
    have m2 : ((i0 : Int) == -1) = false := by simp [m1]
    clear HIx h1 h2 htk hdr
    unfold namedV at HI2 ⊢
    go_enter Tryz.func165, Tryz.ntmps165
    go_wp2_with fail
    refine HI2.out.mono ?_
    rintro e w1 ⟨rfl, hb⟩
    have HB1 := Lib.hid (show Below B w w1 from hb.mono hB)
    have HG1 := Lib.hid (HG.out.later hb)
    have HO1 := Lib.hid (own_keep2f HO.out hb)
    clear hb
    go_wp2_with fail
    go_loopw [5, 6] (fun v5 v6 wr => ∃ i j : Nat, i < j ∧ j ≤ l.length ∧ v5 = .int .i64 i ∧ v6 = .int .i64 j ∧ Hid (Half wr B gr cap name l i j) ∧ Hid (Below B w wr) ∧ Hid (HasN wr g name)) (fun _ v6 _ => l.length - (RowKit.intOf v6).toNat)
    case atStart => exact ⟨i0, i0 + 1, by omega, hidx, rfl, by go_num, HH0.out _ HO1.out, HB1, HG1⟩
    case round =>
      obtain ⟨i, j, hij, hj, rfl, rfl, HR, HB, HN⟩ := hrel
      rename World => W
      by_cases hlt : j < l.length
      · obtain ⟨K, R, hK, hKi, hRl, hoW⟩ := HR.out
        obtain ⟨z, R', rfl⟩ : ∃ z R', R = z :: R' := by
          cases R with
          | nil => simp at hRl; omega
          | cons z R' => exact ⟨z, R', rfl⟩
        have hdr : l.drop j = l.getD j ([], []) :: l.drop (j + 1) := by rw [List.drop_eq_getElem_cons hlt]; simp [List.getD, hlt]
        have htk : l.take (j + 1) = l.take j ++ [l.getD j ([], [])] := by
          rw [List.take_succ_eq_append_getElem hlt]; simp [List.getD, hlt]
        have hm := HZ.out (l.getD j ([], [])) (by simp [List.getD, hlt])
        rw [hdr] at hoW
        generalize l.getD j ([], []) = f at *
        generalize hD : l.drop (j + 1) = D at *
        obtain ⟨n, x⟩ := f
        simp only at hm
        have hat := fcells_mid (K ++ z :: R') (n, x) D
        have hKR : (K ++ z :: R').length = j := by rw [List.length_append, hRl]; omega
        rw [hKR] at hat
        have hc0 := hoW.cellAt (j * 2) (by omega)
        have hc1 := hoW.cellAt (j * 2 + 1) (by omega)
        rw [hat.1] at hc0
        rw [hat.2] at hc1
        have HC := fun W : World => fun h : HasN W g name => named1_any g name n x W h hm.1 hn
        have HF0 := Lib.hid (Two.new W 31 (.string (mkS n)) (.string (mkS x)))
        have hb0 : Below W.heap.size W (W.alloc (Obj.cells #[.string (mkS n), .string (mkS x)] 31)) := (Below.refl _ _).alloc (Nat.le_refl _) _
        have HO2 := Lib.hid (own_keep2f hoW hb0)
        have HN2 := Lib.hid (HN.out.later hb0)
        have hBW : B ≤ W.heap.size := Nat.le_trans hB HB.out.size
        have HB2 := Lib.hid (HB.out.trans (hb0.mono hBW))
        have hq0 := HF0.out.c0
        have hq1 := HF0.out.c1
        have g0 : (0 : Int) ≤ (j : Int) := by omega
        have g1 : (j : Int) < (l.length : Int) := by omega
        have g2 : (0 : Int) ≤ (i : Int) := by omega
        have g3 : (i : Int) < (l.length : Int) := by omega
        have hs0 : B ≤ (W.alloc (Obj.cells #[.string (mkS n), .string (mkS x)] 31)).heap.size := by simp; omega
        have HTK := Lib.hid htk
        have HKK := Lib.hid hK
        have HKi := Lib.hid hKi
        have HRl := Lib.hid hRl
        have HD := Lib.hid hD
        clear hb0 hat hKR hoW htk hdr hK hRl hD
        cases hk : isN name (n, x)
        · rw [hk] at HC
          have hK2 : delF name (l.take (j + 1)) = K ++ [(n, x)] := by rw [HTK.out, delF_snoc, hk, ← HKK.out]; rfl
          have HK2 := Lib.hid hK2
          have HC2 := Lib.hid HC
          clear HC hk hK2
          go_wp2_with fail
          generalize W.alloc (Obj.cells #[.string (mkS n), .string (mkS x)] 31) = W4 at *
          generalize W.heap.size = gw at *
          refine (HC2.out _ HN2.out).mono ?_
          rintro e w5 ⟨rfl, hb⟩
          have ho5 := own_keep2f HO2.out hb
          have HB5 := Lib.hid (HB2.out.trans (hb.mono hs0))
          have HN5 := Lib.hid (HN2.out.later hb)
          have hF5 := HF0.out.later hb
          have q0 := hF5.c0
          have q1 := hF5.c1
          have k0 := ho5.cellAt (i * 2) (by omega)
          have k1 := ho5.cellAt (i * 2 + 1) (by omega)
          rw [show K ++ z :: R' ++ (n, x) :: D = K ++ z :: (R' ++ (n, x) :: D) by simp] at k0 k1 ho5
          have hmid := fcells_mid K z (R' ++ (n, x) :: D)
          rw [HKi.out] at hmid
          rw [hmid.1] at k0
          rw [hmid.2] at k1
          have f0 := ho5.frozenAt (i * 2)
          have f1 := ho5.frozenAt (i * 2 + 1)
          have HO5 := Lib.hid ho5
          have k2 : (w5.setCell ⟨gr, i * 2, none⟩ (.string (mkS n))).cell? ⟨gr, i * 2 + 1, none⟩ = some (.string (mkS z.2)) := by
            rw [World.cell?_setCell_other (w := w5) (a := ⟨gr, i * 2, none⟩) (b := ⟨gr, i * 2 + 1, none⟩) (h := by intro e; injection e with _ e2; omega)]; exact k1
          clear hb ho5 hmid hF5
          go_wp2_with fail
          have hst := own_put2 (a := K) HO5.out n x
          rw [HKi.out] at hst
          refine ⟨⟨i + 1, j + 1, by omega, hlt, by go_num, by go_num, ?_, ?_, ?_⟩, by simp [RowKit.intOf]; omega⟩
          · refine ⟨K ++ [(n, x)], R' ++ [(n, x)], HK2.out.symm, by rw [List.length_append, HKi.out]; rfl, ?_, ?_⟩
            · have := HRl.out
              simp at this ⊢; omega
            · rw [HD.out]
              simpa using hst
          · exact (HB5.out.setCell (p := ⟨gr, i * 2, none⟩) hgr _).setCell (p := ⟨gr, i * 2 + 1, none⟩) hgr _
          · show World.cell? _ _ = _
            rw [World.cell?_setCell_other (h := by intro e; injection e with e1 _; exact hgne e1), World.cell?_setCell_other (h := by intro e; injection e with e1 _; exact hgne e1)]
            exact HN5.out
        · rw [hk] at HC
          have hK2 : delF name (l.take (j + 1)) = K := by rw [HTK.out, delF_snoc, hk, ← HKK.out]; simp
          have HK2 := Lib.hid hK2
          have HC2 := Lib.hid HC
          clear HC hk hK2
          go_wp2_with fail
          generalize W.alloc (Obj.cells #[.string (mkS n), .string (mkS x)] 31) = W4 at *
          generalize W.heap.size = gw at *
          refine (HC2.out _ HN2.out).mono ?_
          rintro e w5 ⟨rfl, hb⟩
          have HO5 := Lib.hid (own_keep2f HO2.out hb)
          have HB5 := Lib.hid (HB2.out.trans (hb.mono hs0))
          have HN5 := Lib.hid (HN2.out.later hb)
          clear hb
          go_wp2_with fail
          refine ⟨⟨i, j + 1, by omega, hlt, rfl, by go_num, ?_, HB5, HN5⟩, by simp [RowKit.intOf]; omega⟩
          refine ⟨K, z :: R' ++ [(n, x)], HK2.out.symm, HKi.out, ?_, ?_⟩
          · have := HRl.out
            simp at this ⊢; omega
          · rw [HD.out]
            have := HO5.out
            simpa using this
      · obtain rfl : j = l.length := by omega
        obtain ⟨K, R, hK, hKi, hRl, hoW⟩ := HR.out
        rw [List.take_length] at hK
        have hcl : ∀ ty, (Builtin.clear_ #[22] ty #[.slice (some ⟨gr, i * 2, none⟩) (l.length - i) (cap - i)]).run Tryz.prog W = .ok (.tuple #[]) (W.setCells gr (i * 2) (zeros2 (l.length - i))) := fun ty =>
          run_clear2 W ty gr (i * 2) (l.length - i) (cap - i) (by omega) (fun t ht => by
            rw [hoW.cellAt (i * 2 + t) (by omega)]
            have : i * 2 + t < (fcells (K ++ R ++ l.drop l.length)).length := by rw [fcells_len]; simp; omega
            rw [List.getElem?_eq_getElem this]; rfl) (fun t _ => hoW.frozenAt _)
        have HOW := Lib.hid hoW
        have HK := Lib.hid hK
        have HKi := Lib.hid hKi
        have g2 : (0 : Int) ≤ (i : Int) := by omega
        have g3 : (i : Int) ≤ (l.length : Int) := by omega
        have g4 : (l.length : Int) ≤ (cap : Int) := by omega
        clear hoW hK hKi hRl
        go_wp2_with fail
        go_ret
        have hw := HOW.out
        refine ⟨_, rfl, ?_, below_setC hgr _ _ _ HB.out⟩
        rw [← HK.out]
        refine ⟨some ⟨gr, 0, none⟩, cap, by rw [HKi.out]; rfl, by rw [HKi.out]; omega, fun t f ht => ?_⟩
        have htl : t < i := by
          have := (List.getElem?_eq_some_iff.1 ht).1
          rw [HKi.out] at this; exact this
        have hget := fcells_get (K ++ R ++ l.drop l.length) t f (by rw [List.append_assoc, List.getElem?_append_left (by rw [HKi.out]; exact htl)]; exact ht)
        refine ⟨gr, 0, rfl, ?_, ?_⟩
        · rw [World.cell?_setCells_out _ _ _ _ _ (fun _ _ => Or.inl (by simp; omega)), Nat.zero_add, hw.cellAt (t * 2) (by omega)]
          exact hget.1
        · rw [World.cell?_setCells_out _ _ _ _ _ (fun _ _ => Or.inl (by simp; omega)), Nat.zero_add, hw.cellAt (t * 2 + 1) (by omega)]
          exact hget.2
  · have hall := find_none name l hidx
    have hix : idxF name l = -1 := by unfold idxF; rw [if_neg hidx]
    rw [hix] at HIx
    have HI2 := Lib.hid HIx
    have HA := Lib.hid (delF_all name l hall)
    obtain ⟨a, cap, rfl⟩ : ∃ a cap, v = .slice a l.length cap := by obtain ⟨a, c, h, -⟩ := isFlds_own ho; exact ⟨a, c, h⟩
    clear hall hix HIx ho hg hz hidx
    unfold namedV at HI2 ⊢
    go_enter Tryz.func165, Tryz.ntmps165
    go_wp2_with fail
    refine HI2.out.mono ?_
    rintro e w1 ⟨rfl, hb⟩
    have HB1 := Lib.hid (show Below B w w1 from hb.mono hB)
    have HF1 := Lib.hid (isFlds_below (isFlds_own HO.out) hb)
    clear hb
    go_wp2_with fail
    go_ret
    exact ⟨_, rfl, by rw [HA.out]; exact HF1.out, HB1.out⟩
end Tk
end Go.Proofs.YtajmheblbnodjaaGreatDoor
namespace Go.Proofs.YtajmheblbnodjaaGreatDoor
open Go.RowKit
namespace Tk

theorem own_base {w : World} {B B2 n : Nat} {v : Value} {xs : List Value} {e : TypeId} (h : w.ownsRow B e 2 v n xs) (hb : B2 ≤ B) : w.ownsRow B2 e 2 v n xs := by
  refine ⟨h.1, ?_⟩
  rcases h.2 with h2 | ⟨g, cap, cur, hv, hge, h2⟩
  · exact .inl h2
  · exact .inr ⟨g, cap, cur, hv, Nat.le_trans hb hge, h2⟩
theorem ownBlock_lt {w : World} {B n : Nat} {v : Value} {xs : List Value} {e : TypeId} (h : w.ownsRow B e 2 v n xs) : v.ownBlock ≠ some w.heap.size := by
  intro hh
  have := (h.lt _ hh).2
  omega

set_option maxHeartbeats 4000000 in
set_option maxRecDepth 100000 in
theorem fdel_any (v : Value) (l : List (Bs × Bs)) (name : Bs) (w : World) (hs : IsFlds w v l) (hnl : ∀ n c, v = .slice none n c → c = 0)
    (hz : ∀ f ∈ l, f.1.length ≤ 1099511627776 ∧ f.2.length ≤ 1099511627776) (hn : name.length ≤ 1099511627776) (hl : l.length ≤ 1048576) :
    Calls Tryz.prog 106 #[v, .string (mkS name)] w (OwnPost (delF name l) w) := by
  have HZ := Lib.hid hz
  have HZ2 : Hid (∀ f ∈ delF name l, f.1.length ≤ 1099511627776 ∧ f.2.length ≤ 1099511627776) := fun f hf => hz f (List.mem_filter.1 hf).1
  have hl2 : (delF name l).length ≤ 1048576 := Nat.le_trans (delF_len name l) hl
  have HCl := Lib.hid (sclone_any v l w hs hnl hl)
  have HN := Lib.hid (fun W : World => named_any name W)
  unfold OwnPost at HCl ⊢
  obtain ⟨a, cap, rfl⟩ : ∃ a cap, v = .slice a l.length cap := by obtain ⟨a, c, h, -⟩ := hs; exact ⟨a, c, h⟩
  clear hs hnl hz
  go_enter Tryz.func106, Tryz.ntmps106
  go_wp2_with fail
  refine HCl.out.mono ?_
  rintro e w1 ⟨v1, rfl, ho, hb⟩
  have HO := Lib.hid ho
  have HB := Lib.hid hb
  clear ho hb
  go_wp2_with fail
  refine (HN.out _).mono ?_
  rintro e w2 ⟨rfl, hg, hb⟩
  have HD := Lib.hid (delf_any v1 l name w1.heap.size w.heap.size w2 (own_keep2f HO.out hb) (Nat.le_trans HB.out.size hb.size) hg (ownBlock_lt HO.out) HZ.out hn hl)
  have HB2 := Lib.hid (HB.out.trans (hb.mono HB.out.size))
  clear hg hb
  go_wp2_with fail
  refine HD.out.mono ?_
  rintro e w3 ⟨v3, rfl, hf, hb⟩
  have HB3 := Lib.hid (HB2.out.trans hb)
  have HC := Lib.hid (copied_any v3 (delF name l) w3 hf HZ2.out hl2)
  unfold OwnPost at HC
  clear hf hb
  go_wp2_with fail
  refine HC.out.mono ?_
  rintro e w4 ⟨v4, rfl, ho, hb⟩
  have HO4 := Lib.hid (own_base ho HB3.out.size)
  have HB4 := Lib.hid (HB3.out.trans (hb.mono HB3.out.size))
  clear ho hb
  go_wp2_with fail
  go_ret
  exact ⟨v4, rfl, HO4.out, HB4.out⟩
end Tk
end Go.Proofs.YtajmheblbnodjaaGreatDoor
namespace Go.Proofs.YtajmheblbnodjaaGreatDoor
open Go.RowKit
namespace Tk

theorem noStand : Tryz.prog.stoodInHeld 31 = false := by kernel_rfl
theorem field_eql (W : World) (a b c d : ByteArray) : (binOp .eql 31 (.agg #[.string a, .string b]) (.agg #[.string c, .string d])).run Tryz.prog W = .ok (.bool (a.toList == c.toList && b.toList == d.toList)) W := by
  rw [run_eql_struct, run_equalIn_agg _ _ _ _ _ (by simp [Program.fieldsOf, Tryz.underlying31]) noStand]
  simp [Program.fieldsOf, Tryz.underlying31, Op.eqFields, go_sem]
  by_cases h1 : a.toList = c.toList <;> by_cases h2 : b.toList = d.toList <;> simp [h1, h2]

/-- may the fields be gone through: so many bytes together -/
def lfGo (b : Nat) : Nat → List (Bs × Bs) → Bool
  | _, [] => true
  | n, f :: t => if b < n + f.1.length + f.2.length then false else lfGo b (n + f.1.length + f.2.length) t
def lightF (l : List (Bs × Bs)) : Bool := decide (l.length ≤ 30) && lfGo 600 0 l
theorem lfGo_sum (b : Nat) : ∀ (l : List (Bs × Bs)) (n : Nat), n ≤ b → lfGo b n l = true → n + sumF l ≤ b + 4 * l.length
  | [], n, hn, _ => by simp [sumF]; exact hn
  | f :: t, n, hn, h => by
    unfold lfGo at h
    split at h
    · cases h
    · have := lfGo_sum b t (n + f.1.length + f.2.length) (by omega) h
      unfold sumF; simp only [List.length_cons]; omega
theorem lightF_parts (l : List (Bs × Bs)) (h : lightF l = true) : l.length ≤ 30 ∧ sumF l ≤ 720 := by
  unfold lightF at h
  rw [Bool.and_eq_true, decide_eq_true_eq] at h
  have := lfGo_sum 600 l 0 (by omega) h.2
  exact ⟨h.1, by omega⟩

set_option maxHeartbeats 2000000 in
set_option maxRecDepth 100000 in
theorem lightFields_any (v : Value) (l : List (Bs × Bs)) (w : World) (hs : IsFlds w v l) (hz : ∀ f ∈ l, f.1.length ≤ 140737488351232 ∧ f.2.length ≤ 140737488351232) (hl : l.length ≤ 140737488351232) :
    Calls Tryz.prog 110 #[v, .int .i64 30, .int .i64 600] w fun e w' => e = .returned (.bool (lightF l)) ∧ ∃ n, w' = w.drewN n := by
  obtain ⟨a, c, rfl, hcap, hc⟩ := hs
  have HC := Lib.hid hc
  have HZ := Lib.hid hz
  clear hc hz
  by_cases h20 : 30 < l.length
  · have fin : lightF l = false := by unfold lightF; rw [decide_eq_false (by omega)]; rfl
    have HF := Lib.hid fin
    have h' : (30 : Int) < (l.length : Int) := by omega
    clear fin
    go_enter Tryz.func110, Tryz.ntmps110
    go_wp2_with fail
    go_ret
    exact ⟨by rw [HF.out]; rfl, 0, rfl⟩
  · have fin : lightF l = lfGo 600 0 l := by unfold lightF; rw [decide_eq_true (by omega)]; rfl
    have HF := Lib.hid fin
    have h' : ¬ (30 : Int) < (l.length : Int) := by omega
    clear fin
    go_enter Tryz.func110, Tryz.ntmps110
    go_wp2_with fail
    go_loopw [7, 8] (fun vn vi wr => ∃ (i n m : Nat), i ≤ l.length ∧ n ≤ 600 ∧ vi = .int .i64 i ∧ vn = .int .i64 n ∧ wr = w.drewN m ∧ Hid (lightF l = lfGo 600 n (l.drop i))) (fun _ vi _ => l.length - (RowKit.intOf vi).toNat)
    case atStart => exact ⟨0, 0, 0, by omega, by omega, rfl, rfl, rfl, HF.out⟩
    case round =>
      obtain ⟨i, n, m, hi, hn, rfl, rfl, rfl, hd⟩ := hrel
      by_cases hlt : i < l.length
      · obtain ⟨b, o, rfl, hc0, hc1⟩ := HC.out i (l.getD i ([], [])) (by simp [List.getD, hlt])
        obtain ⟨z0, z1⟩ := HZ.out (l.getD i ([], [])) (by simp [List.getD, hlt])
        have hdr : l.drop i = l.getD i ([], []) :: l.drop (i + 1) := by rw [List.drop_eq_getElem_cons hlt]; simp [List.getD, hlt]
        have HD := Lib.hid hdr
        clear hdr
        generalize l.getD i ([], []) = f at *
        obtain ⟨x, y⟩ := f
        simp only at z0 z1 hc0 hc1
        have s0 := size_mkS x
        have s1 := size_mkS y
        have HS0 := Lib.hid s0
        have HS1 := Lib.hid s1
        have y0 : (mkS x).size ≤ 140737488351232 := by omega
        have y1 : (mkS y).size ≤ 140737488351232 := by omega
        clear s0 s1 z0 z1
        have hb0 : (0 : Int) ≤ (i : Int) := by omega
        have hb1 : (i : Int) < (l.length : Int) := by omega
        by_cases hb : 600 < n + (mkS x).size + (mkS y).size
        · have fin : lightF l = false := by
            rw [hd.out, HD.out, lfGo, if_pos (by rw [← HS0.out, ← HS1.out]; exact hb)]
          have HF2 := Lib.hid fin
          have hb' : (600 : Int) < (n : Int) + ((mkS x).size : Int) + ((mkS y).size : Int) := by omega
          clear fin HF HD hd
          generalize mkS x = s at *
          generalize mkS y = t at *
          have w1 : IntKind.i64.wrap ((n : Int) + (s.size : Int)) = (n : Int) + (s.size : Int) := IntWalk.i64_in _ (by omega)
          have w2 : IntKind.i64.wrap ((n : Int) + (s.size : Int) + (t.size : Int)) = (n : Int) + (s.size : Int) + (t.size : Int) := IntWalk.i64_in _ (by omega)
          go_wp2_with fail
          go_quiet (fail)
          clear w1 w2
          go_wp2_with fail
          go_ret
          exact ⟨by rw [HF2.out]; rfl, _, rfl⟩
        · have nx : lightF l = lfGo 600 (n + (mkS x).size + (mkS y).size) (l.drop (i + 1)) := by
            rw [hd.out, HD.out, lfGo, if_neg (by rw [← HS0.out, ← HS1.out]; exact hb), HS0.out, HS1.out]
          have HN := Lib.hid nx
          have hb' : ¬ (600 : Int) < (n : Int) + ((mkS x).size : Int) + ((mkS y).size : Int) := by omega
          clear nx HF HD hd
          generalize mkS x = s at *
          generalize mkS y = t at *
          have w1 : IntKind.i64.wrap ((n : Int) + (s.size : Int)) = (n : Int) + (s.size : Int) := IntWalk.i64_in _ (by omega)
          have w2 : IntKind.i64.wrap ((n : Int) + (s.size : Int) + (t.size : Int)) = (n : Int) + (s.size : Int) + (t.size : Int) := IntWalk.i64_in _ (by omega)
          go_wp2_with fail
          go_quiet (fail)
          clear w1 w2
          go_wp2_with fail
          exact ⟨⟨i + 1, n + s.size + t.size, _, by omega, by omega, by go_num, by go_num, rfl, HN⟩, by simp [RowKit.intOf]; omega⟩
      · have fin : lightF l = true := by rw [hd.out, List.drop_eq_nil_of_le (by omega)]; rfl
        have HF2 := Lib.hid fin
        clear fin
        go_wp2_with fail
        go_ret
        exact ⟨by rw [HF2.out]; rfl, _, rfl⟩

theorem ex_line1 : lnN [65, 58, 32, 32, 98, 32] = [65] ∧ lnV [65, 58, 32, 32, 98, 32] = [98] ∧ lnE [65, 58, 32, 32, 98, 32] = 0 := by decide +kernel
theorem ex_line2 : lnN [65, 32, 58, 32, 98] = [] ∧ lnV [65, 32, 58, 32, 98] = [] ∧ lnE [65, 32, 58, 32, 98] = 4 := by decide +kernel
def Yes2 (w : World) (r : Ending) (w' : World) : Prop := r = .returned (.bool true) ∧ Below w.heap.size w w'

end Tk
end Go.Proofs.YtajmheblbnodjaaGreatDoor
namespace Go.Proofs.YtajmheblbnodjaaGreatDoor
open Go.RowKit
namespace Tk

def setF (name x : Bs) (l : List (Bs × Bs)) : List (Bs × Bs) :=
  if l.findIdx (isN name) < l.length then l.take (l.findIdx (isN name)) ++ ((l.getD (l.findIdx (isN name)) ([], [])).1, x) :: delF name (l.drop (l.findIdx (isN name) + 1))
  else l ++ [(name, x)]

theorem isFlds_one2 {w : World} {b o c : Nat} {n x : Bs} (hc : 1 ≤ c) (h0 : w.cell? ⟨b, o, none⟩ = some (.string (mkS n))) (h1 : w.cell? ⟨b, o + 1, none⟩ = some (.string (mkS x))) : IsFlds w (.slice (some ⟨b, o, none⟩) 1 c) [(n, x)] := by
  refine ⟨_, c, rfl, hc, fun j f hj => ⟨b, o, rfl, ?_⟩⟩
  match j, hj with
  | 0, hj => simp at hj; subst hj; exact ⟨by simpa using h0, by simpa using h1⟩
theorem isFlds_lit (w : World) (n x : Bs) : IsFlds (w.alloc (Obj.cells #[.string (mkS n), .string (mkS x)] 31)) (.slice (some ⟨w.heap.size, 0, none⟩) 1 1) [(n, x)] := by
  have hN := Two.new w 31 (.string (mkS n)) (.string (mkS x))
  exact isFlds_one2 (b := w.heap.size) (o := 0) (c := 1) (n := n) (x := x) (Nat.le_refl _) hN.c0 hN.c1

/-- a part of a list of fields in memory -/
theorem isFlds_take {w : World} {b o c n : Nat} {l : List (Bs × Bs)} (h : IsFlds w (.slice (some ⟨b, o, none⟩) n c) l) (i : Nat) (hi : i ≤ l.length) : IsFlds w (.slice (some ⟨b, o, none⟩) i c) (l.take i) := by
  obtain ⟨a', c', e', hcap, hc⟩ := h
  injection e' with e1 e3 e2
  subst e1 e2 e3
  have hl : (l.take i).length = i := by simp; omega
  refine ⟨some ⟨b, o, none⟩, c, by rw [hl], by rw [hl]; omega, fun j f hj => ?_⟩
  have hji : j < i := by
    have := (List.getElem?_eq_some_iff.1 hj).1
    rw [hl] at this; exact this
  rw [List.getElem?_take, if_pos hji] at hj
  exact hc j f hj
theorem isFlds_drop {w : World} {b o c n : Nat} {l : List (Bs × Bs)} (h : IsFlds w (.slice (some ⟨b, o, none⟩) n c) l) (i : Nat) (hi : i ≤ l.length) : IsFlds w (.slice (some ⟨b, o + i * 2, none⟩) (l.length - i) (c - i)) (l.drop i) := by
  obtain ⟨a', c', e', hcap, hc⟩ := h
  injection e' with e1 e3 e2
  subst e1 e2 e3
  have hl : (l.drop i).length = l.length - i := by simp
  refine ⟨some ⟨b, o + i * 2, none⟩, c - i, by rw [hl], by rw [hl]; omega, fun j f hj => ?_⟩
  rw [List.getElem?_drop] at hj
  obtain ⟨b', o', e, h0, h1⟩ := hc (i + j) f hj
  injection e with e
  injection e with e1 e2
  subst e1 e2
  exact ⟨b, o + i * 2, rfl, by rw [← h0]; congr 2; omega, by rw [← h1]; congr 2; omega⟩

theorem step_joinF {ops : Array Oper} {w w0 : World} {o : Oper} {a : Act} {K : Act → World → Prop} {Q : Exit → Act → World → Prop} {E : Prop} (hgd : o.guard = none) (s x : Operand)
    (ho : o.op = .call { callee := .builtin .append, args := #[s, x], argTypes := #[22, 22] })
    (base : Nat) (v v2 : Value) (P R : List (Bs × Bs)) (hs : a.eval s = v) (hx : a.eval x = v2) (h1 : w.ownsRow base 31 2 v P.length (fcells P)) (h2 : IsFlds w v2 R) (hnl : ∀ n c, v2 = .slice none n c → c = 0)
    (hB : base ≤ w.heap.size) (hP : P.length ≤ 1048576) (hR : R.length ≤ 1048576) (p : Addr) (u : Value) (_hp : p.block < base) (hcell : ∀ W, Below base w0 W → W.cell? p = some u) (hb : Below base w0 w)
    (h : ∀ v' w', w'.ownsRow base 31 2 v' (P ++ R).length (fcells (P ++ R)) → Below base w0 w' → w'.cell? p = some u → K (a.put o.dst v') w') :
    if Region.wanted o (yielded ops a.tmps) = true then Oper.wp Tryz.prog o a w K Q else E := by
  have hw : Region.wanted o (yielded ops a.tmps) = true := by simp [Region.wanted, hgd]
  rw [if_pos hw]
  refine joinF_run w o a K Q s x ho base v v2 P R hs hx h1 h2 hnl hB hP hR fun v' w' h3 h4 => ?_
  have hb2 := hb.trans (below_of_grownF h4 h1 hB)
  exact h v' w' h3 hb2 (hcell _ hb2)

end Tk
end Go.Proofs.YtajmheblbnodjaaGreatDoor
namespace Go.Proofs.YtajmheblbnodjaaGreatDoor
open Go.RowKit
namespace Tk

set_option maxHeartbeats 4000000 in
set_option maxRecDepth 100000 in
theorem join_none (c : Nat) (a : Option Addr) (sep : ByteArray) (w : World) :
    Calls Tryz.prog 97 #[.slice a 0 c, .string sep] w fun e w' => e = .returned (.string ⟨#[]⟩) ∧ Below w.heap.size w w' := by
  go_enter Tryz.func97, Tryz.ntmps97
  go_wp2_with fail
  go_ret
  exact ⟨rfl, Below.refl _ _⟩

set_option maxHeartbeats 4000000 in
set_option maxRecDepth 100000 in
theorem join_one (g c : Nat) (s sep : ByteArray) (w : World) (h : w.cell? ⟨g, 0, none⟩ = some (.string s)) :
    Calls Tryz.prog 97 #[.slice (some ⟨g, 0, none⟩) 1 c, .string sep] w fun e w' => e = .returned (.string s) ∧ Below w.heap.size w w' := by
  go_enter Tryz.func97, Tryz.ntmps97
  go_wp2_with fail
  go_ret
  exact ⟨rfl, Below.refl _ _⟩

/-- what Get tells of at most one value -/
def getS : List Bs → Bs
  | [x] => x
  | _ => []

set_option maxHeartbeats 4000000 in
set_option maxRecDepth 100000 in
theorem fget_one (v : Value) (l : List (Bs × Bs)) (name : Bs) (w : World) (hs : IsFlds w v l) (hz : ∀ f ∈ l, f.1.length ≤ 1099511627776 ∧ f.2.length ≤ 1099511627776) (hn : name.length ≤ 1099511627776) (hl : l.length ≤ 1048576)
    (h1 : (allF l name).length ≤ 1) :
    Calls Tryz.prog 264 #[v, .string (mkS name)] w fun e w' => e = .returned (.tuple #[.string (mkS (getS (allF l name))), .bool (decide (0 < (allF l name).length))]) ∧ Below w.heap.size w w' := by
  have HA := Lib.hid (fall_any v l name w hs hz hn hl)
  unfold ListPost at HA
  obtain ⟨a, cap, rfl⟩ : ∃ a cap, v = .slice a l.length cap := by obtain ⟨a, c, h, -⟩ := hs; exact ⟨a, c, h⟩
  clear hs hz
  generalize allF l name = P at *
  go_enter Tryz.func264, Tryz.ntmps264
  go_wp2_with fail
  refine HA.out.mono ?_
  rintro e w1 ⟨v1, rfl, ho, hb⟩
  have HB := Lib.hid hb
  rcases P with _ | ⟨x, P⟩
  · obtain ⟨a1, c1, rfl⟩ : ∃ a c, v1 = .slice a 0 c := by
      rcases ho.2 with ⟨hv, hn⟩ | ⟨g, cap, cur, hv, _⟩
      · exact ⟨none, 0, hv⟩
      · exact ⟨_, _, hv⟩
    clear ho hb
    go_wp2_with fail
    refine (join_none c1 a1 _ w1).mono ?_
    rintro e w2 ⟨rfl, hb⟩
    have HB2 := Lib.hid (HB.out.trans (hb.mono HB.out.size))
    clear hb
    go_wp2_with fail
    go_ret2
    exact ⟨rfl, HB2.out⟩
  · have hP : P = [] := by
      simp at h1
      exact h1
    subst hP
    obtain ⟨g, c1, rfl⟩ : ∃ g c, v1 = .slice (some ⟨g, 0, none⟩) 1 c := by
      rcases ho.2 with ⟨hv, hn⟩ | ⟨g, cap, cur, hv, _⟩
      · simp at hn
      · exact ⟨_, _, hv⟩
    have hc : w1.cell? ⟨g, 0, none⟩ = some (.string (mkS x)) := ho.cellAt 0 (by decide)
    clear ho hb
    go_wp2_with fail
    refine (join_one g c1 _ _ w1 hc).mono ?_
    rintro e w2 ⟨rfl, hb⟩
    have HB2 := Lib.hid (HB.out.trans (hb.mono HB.out.size))
    clear hb
    go_wp2_with fail
    go_ret2
    exact ⟨rfl, HB2.out⟩
end Tk
end Go.Proofs.YtajmheblbnodjaaGreatDoor
