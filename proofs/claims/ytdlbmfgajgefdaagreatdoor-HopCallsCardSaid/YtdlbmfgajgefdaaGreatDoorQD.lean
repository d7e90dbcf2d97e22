/- FldQ FldT FldU HopP TokE HopA HopI HopK Ord, put together. -/
import Derived.Test.YtdlbmfgajgefdaaGreatDoorQC
import Derived.Deep.RegionHeld3
import Derived.Test.YtdlbmfgajgefdaaGreatDoorQB
import Derived.Lib.ItoaMem
import Derived.Maps.OwnOps
import Derived.Maps.OwnSet
import Derived.Maps.Views
import Derived.StringKeys
import Derived.Test.YtdlbmfgajgefdaaGreatDoorQA
namespace Go.Proofs.YtdlbmfgajgefdaaGreatDoor
open Go.RowKit
namespace Tk

def setF (name x : Bs) (l : List (Bs × Bs)) : List (Bs × Bs) :=
  if l.findIdx (isN name) < l.length then l.take (l.findIdx (isN name)) ++ ((l.getD (l.findIdx (isN name)) ([], [])).1, x) :: delF name (l.drop (l.findIdx (isN name) + 1))
  else l ++ [(name, x)]

theorem isFlds_one2 {w : World} {b o c : Nat} {n x : Bs} (hc : 1 ≤ c) (h0 : w.cell? ⟨b, o, none⟩ = some (.string (mkS n))) (h1 : w.cell? ⟨b, o + 1, none⟩ = some (.string (mkS x))) : IsFlds w (.slice (some ⟨b, o, none⟩) 1 c) [(n, x)] := by
  refine ⟨_, c, rfl, hc, fun j f hj => ⟨b, o, rfl, ?_⟩⟩
  match j, hj with
  | 0, hj => simp at hj; subst hj; exact ⟨by simpa using h0, by simpa using h1⟩
theorem isFlds_lit (w : World) (n x : Bs) : IsFlds (w.alloc (Obj.cells #[.string (mkS n), .string (mkS x)] 32)) (.slice (some ⟨w.heap.size, 0, none⟩) 1 1) [(n, x)] := by
  have hN := Two.new w 32 (.string (mkS n)) (.string (mkS x))
  exact isFlds_one2 (b := w.heap.size) (o := 0) (c := 1) (n := n) (x := x) (Nat.le_refl _) hN.c0 hN.c1

set_option maxHeartbeats 4000000 in
set_option maxRecDepth 100000 in
theorem fset_no (v : Value) (l : List (Bs × Bs)) (name x : Bs) (w : World) (hs : IsFlds w v l) (hno : ¬ l.findIdx (isN name) < l.length)
    (hz : ∀ f ∈ l, f.1.length ≤ 1099511627776 ∧ f.2.length ≤ 1099511627776) (hn : name.length ≤ 1099511627776) (hx : x.length ≤ 1099511627776) (hl : l.length ≤ 1048576) :
    Calls Tryz.prog 63 #[v, .string (mkS name), .string (mkS x)] w (OwnPost (setF name x l) w) := by
  have HS := Lib.hid hs
  have HN := Lib.hid (named_any name w)
  have HI := Lib.hid (fun (W : World) (hb : Below w.heap.size w W) (g : Nat) (hg : HasN W g name) => index_any v g name l W (isFlds_below hs hb) hg hz hn hl)
  have HCp := Lib.hid (fun (W : World) (hb : Below w.heap.size w W) => copied_any v l W (isFlds_below hs hb) hz hl)
  have HOw := Lib.hid (fun W : World => fown_any name x W hn hx)
  have hix : idxF name l = -1 := by unfold idxF; rw [if_neg hno]
  have HSet : Hid (setF name x l = l ++ [(name, x)]) := by show setF name x l = _; unfold setF; rw [if_neg hno]
  rw [hix] at HI
  unfold OwnPost at HCp ⊢
  obtain ⟨a, cap, rfl⟩ : ∃ a cap, v = .slice a l.length cap := by obtain ⟨a, c, h, -⟩ := hs; exact ⟨a, c, h⟩
  clear hs hz hix hno
  go_enter Tryz.func63, Tryz.ntmps63
  go_wp2_with fail
  refine HN.out.mono ?_
  rintro e w1 ⟨rfl, hg, hb⟩
  have HI1 := Lib.hid (HI.out _ hb _ hg)
  have HB1 := Lib.hid hb
  clear hg hb
  go_wp2_with fail
  refine HI1.out.mono ?_
  rintro e w2 ⟨rfl, hb⟩
  have HB2 := Lib.hid (HB1.out.trans (hb.mono HB1.out.size))
  clear hb
  go_wp2_with fail
  refine (HCp.out _ HB2.out).mono ?_
  rintro e w3 ⟨v3, rfl, ho, hb⟩
  have HO3 := Lib.hid (own_base ho HB2.out.size)
  have HB3 := Lib.hid (HB2.out.trans (hb.mono HB2.out.size))
  clear ho hb
  go_wp2_with fail
  refine (HOw.out _).mono ?_
  rintro e w4 ⟨rfl, hb⟩
  have ho4 := own_keep2f HO3.out hb
  have HB4 := HB3.out.trans (hb.mono HB3.out.size)
  have hbal : Below w4.heap.size w4 (w4.alloc (Obj.cells #[.string (mkS name), .string (mkS x)] 32)) := (Below.refl _ _).alloc (Nat.le_refl _) _
  have HO5 := Lib.hid (own_keep2f ho4 hbal)
  have HF5 := Lib.hid (isFlds_lit w4 name x)
  have HB5 := Lib.hid (HB4.trans (hbal.mono HB4.size))
  have hs5 : w.heap.size ≤ (w4.alloc (Obj.cells #[.string (mkS name), .string (mkS x)] 32)).heap.size := HB5.out.size
  clear hb ho4 hbal HB4
  go_wp2_with (at_builtin; refine joinF_guarded (by rfl) _ _ rfl w.heap.size _ _ l [(name, x)] rfl rfl HO5.out HF5.out (fun _ _ h => by injection h with h1; cases h1) hs5 (by omega) (by simp) ?_)
  intro v6 w6 ho6 hg6
  have HB6 := Lib.hid (HB5.out.trans (below_of_grownF hg6 HO5.out hs5))
  have HO6 := Lib.hid ho6
  clear ho6 hg6
  go_wp2_with fail
  go_ret
  exact ⟨v6, rfl, by rw [HSet.out, List.length_append]; exact HO6.out, HB6.out⟩

/-- a part of a list of fields in memory -/
theorem isFlds_take {w : World} {b o c n : Nat} {l : List (Bs × Bs)} (h : IsFlds w (.slice (some ⟨b, o, none⟩) n c) l) (i : Nat) (hi : i ≤ l.length) : IsFlds w (.slice (some ⟨b, o, none⟩) i c) (l.take i) := by
  obtain ⟨a', c', e', hcap, hc⟩ := h
  injection e' with e1 e3 e2
  subst e1 e2 e3
  have hl : (l.take i).length = i := by simp; omega
  refine ⟨some ⟨b, o, none⟩, c, by rw [hl], by rw [hl]; omega, fun j f hj => ?_⟩
  have hji : j < i := by
    have := (List.getElem?_eq_some_iff.1 hj).1
    rw [hl] at this; exact this
  rw [List.getElem?_take, if_pos hji] at hj
  exact hc j f hj
theorem isFlds_drop {w : World} {b o c n : Nat} {l : List (Bs × Bs)} (h : IsFlds w (.slice (some ⟨b, o, none⟩) n c) l) (i : Nat) (hi : i ≤ l.length) : IsFlds w (.slice (some ⟨b, o + i * 2, none⟩) (l.length - i) (c - i)) (l.drop i) := by
  obtain ⟨a', c', e', hcap, hc⟩ := h
  injection e' with e1 e3 e2
  subst e1 e2 e3
  have hl : (l.drop i).length = l.length - i := by simp
  refine ⟨some ⟨b, o + i * 2, none⟩, c - i, by rw [hl], by rw [hl]; omega, fun j f hj => ?_⟩
  rw [List.getElem?_drop] at hj
  obtain ⟨b', o', e, h0, h1⟩ := hc (i + j) f hj
  injection e with e
  injection e with e1 e2
  subst e1 e2
  exact ⟨b, o + i * 2, rfl, by rw [← h0]; congr 2; omega, by rw [← h1]; congr 2; omega⟩

theorem step_joinF {ops : Array Oper} {w w0 : World} {o : Oper} {a : Act} {K : Act → World → Prop} {Q : Exit → Act → World → Prop} {E : Prop} (hgd : o.guard = none) (s x : Operand)
    (ho : o.op = .call { callee := .builtin .append, args := #[s, x], argTypes := #[22, 22] })
    (base : Nat) (v v2 : Value) (P R : List (Bs × Bs)) (hs : a.eval s = v) (hx : a.eval x = v2) (h1 : w.ownsRow base 32 2 v P.length (fcells P)) (h2 : IsFlds w v2 R) (hnl : ∀ n c, v2 = .slice none n c → c = 0)
    (hB : base ≤ w.heap.size) (hP : P.length ≤ 1048576) (hR : R.length ≤ 1048576) (p : Addr) (u : Value) (_hp : p.block < base) (hcell : ∀ W, Below base w0 W → W.cell? p = some u) (hb : Below base w0 w)
    (h : ∀ v' w', w'.ownsRow base 32 2 v' (P ++ R).length (fcells (P ++ R)) → Below base w0 w' → w'.cell? p = some u → K (a.put o.dst v') w') :
    if Region.wanted o (yielded ops a.tmps) = true then Oper.wp Tryz.prog o a w K Q else E := by
  have hw : Region.wanted o (yielded ops a.tmps) = true := by simp [Region.wanted, hgd]
  rw [if_pos hw]
  refine joinF_run w o a K Q s x ho base v v2 P R hs hx h1 h2 hnl hB hP hR fun v' w' h3 h4 => ?_
  have hb2 := hb.trans (below_of_grownF h4 h1 hB)
  exact h v' w' h3 hb2 (hcell _ hb2)

set_option maxHeartbeats 8000000 in
set_option maxRecDepth 100000 in
theorem fset_yes (v : Value) (l : List (Bs × Bs)) (name x : Bs) (w : World) (hs : IsFlds w v l) (hno : l.findIdx (isN name) < l.length)
    (hz : ∀ f ∈ l, f.1.length ≤ 1099511627776 ∧ f.2.length ≤ 1099511627776) (hn : name.length ≤ 1099511627776) (hx : x.length ≤ 1099511627776) (hl : l.length ≤ 1048576) :
    Calls Tryz.prog 63 #[v, .string (mkS name), .string (mkS x)] w (OwnPost (setF name x l) w) := by
  have HN := Lib.hid (named_any name w)
  have HI := Lib.hid (fun (W : World) (hb : Below w.heap.size w W) (g : Nat) (hg : HasN W g name) => index_any v g name l W (isFlds_below hs hb) hg hz hn hl)
  have hix : idxF name l = (l.findIdx (isN name) : Int) := by unfold idxF; rw [if_pos hno]
  rw [hix] at HI
  have HSet : Hid (setF name x l = l.take (l.findIdx (isN name)) ++ ((l.getD (l.findIdx (isN name)) ([], [])).1, x) :: delF name (l.drop (l.findIdx (isN name) + 1))) := by show setF name x l = _; unfold setF; rw [if_pos hno]
  generalize l.findIdx (isN name) = i at *
  have hs2 := hs
  obtain ⟨a, cap, rfl, hcap, hc⟩ := hs2
  obtain ⟨b, o, rfl, hc0, hc1⟩ := hc i (l.getD i ([], [])) (by simp [List.getD, hno])
  have hm := hz (l.getD i ([], [])) (by simp [List.getD, hno])
  have hlt : b < w.heap.size := cell_lt (p := ⟨b, o + i * 2, none⟩) hc0
  generalize l.getD i ([], []) = f at *
  obtain ⟨n, y⟩ := f
  simp only at hm hc0 hc1
  have HCp := Lib.hid (fun (W : World) (hb : Below w.heap.size w W) => copied_any _ (l.take i) W (isFlds_take (isFlds_below hs hb) i (by omega)) (fun f hf => hz f (List.mem_of_mem_take hf)) (by rw [List.length_take]; omega))
  have HDl := Lib.hid (fun (W : World) (A : Option Addr) (c' : Nat) (hf : IsFlds W (.slice A (l.length - (i + 1)) c') (l.drop (i + 1))) (hA : A ≠ none) => fdel_any _ (l.drop (i + 1)) name W hf (fun _ _ h => by injection h with h1; exact absurd h1 hA) (fun f hf => hz f (List.mem_of_mem_drop hf)) hn (by rw [List.length_drop]; omega))
  have HSd := Lib.hid (fun (W : World) (hb : Below w.heap.size w W) => isFlds_drop (isFlds_below hs hb) (i + 1) (by omega))
  have HOw := Lib.hid (fun W : World => fown_any n x W hm.1 hx)
  unfold OwnPost at HCp HDl ⊢
  have HCell : Hid (∀ W, Below w.heap.size w W → W.cell? ⟨b, o + i * 2, none⟩ = some (.string (mkS n))) := fun W h => (h.cell (p := ⟨b, o + i * 2, none⟩) hlt).trans hc0
  have CK : Hid (∀ W, Below w.heap.size w W → Calls Tryz.prog 101 #[.slice (some ⟨b, o, none⟩) i cap] W fun e w' => ∃ v', e = .returned v' ∧ Below w.heap.size w w' ∧ w'.cell? ⟨b, o + i * 2, none⟩ = some (.string (mkS n)) ∧ w'.ownsRow w.heap.size 32 2 v' (l.take i).length (fcells (l.take i))) := by
    intro W hb
    refine (HCp.out W hb).mono ?_
    rintro e w' ⟨v', rfl, ho, hb'⟩
    have hB := hb.trans (hb'.mono hb.size)
    exact ⟨v', rfl, hB, HCell.out _ hB, own_base ho hb.size⟩
  have OK2 : Hid (∀ W v', Below w.heap.size w W → W.ownsRow w.heap.size 32 2 v' (l.take i).length (fcells (l.take i)) → Calls Tryz.prog 102 #[.string (mkS n), .string (mkS x)] W fun e w' => e = .returned (.agg #[.string (mkS n), .string (mkS x)]) ∧ w'.cell? ⟨b, o + i * 2, none⟩ = some (.string (mkS n)) ∧
      Below w.heap.size w (w'.alloc (Obj.cells #[.string (mkS n), .string (mkS x)] 32)) ∧ (w'.alloc (Obj.cells #[.string (mkS n), .string (mkS x)] 32)).ownsRow w.heap.size 32 2 v' (l.take i).length (fcells (l.take i)) ∧
      IsFlds (w'.alloc (Obj.cells #[.string (mkS n), .string (mkS x)] 32)) (.slice (some ⟨w'.heap.size, 0, none⟩) 1 1) [(n, x)] ∧ w.heap.size ≤ (w'.alloc (Obj.cells #[.string (mkS n), .string (mkS x)] 32)).heap.size) := by
    intro W v' hb ho
    refine (HOw.out W).mono ?_
    rintro e w' ⟨rfl, hb'⟩
    have hB := hb.trans (hb'.mono hb.size)
    have hbal : Below w'.heap.size w' (w'.alloc (Obj.cells #[.string (mkS n), .string (mkS x)] 32)) := (Below.refl _ _).alloc (Nat.le_refl _) _
    have hB2 := hB.trans (hbal.mono hB.size)
    exact ⟨rfl, HCell.out _ hB, hB2, own_keep2f (own_keep2f ho hb') hbal, isFlds_lit w' n x, hB2.size⟩
  have hli : (l.take i).length ≤ 1048576 := by rw [List.length_take]; omega
  have g0 : (0 : Int) ≤ (i : Int) := by omega
  have g1 : (i : Int) < (l.length : Int) := by omega
  have g2 : (i : Int) ≤ (cap : Int) := by omega
  have g3 : (l.length : Int) ≤ (cap : Int) := by omega
  have g4 : ¬ (i : Int) < 0 := by omega
  clear hs hz hix hc hc0 hc1
  go_enter Tryz.func63, Tryz.ntmps63
  go_wp2_with fail
  refine HN.out.mono ?_
  rintro e w1 ⟨rfl, hg, hb⟩
  have HI1 := Lib.hid (HI.out _ hb _ hg)
  have HB1 := Lib.hid hb
  clear hg hb
  go_wp2_with fail
  refine HI1.out.mono ?_
  rintro e w2 ⟨rfl, hb⟩
  have hB2 := HB1.out.trans (hb.mono HB1.out.size)
  have hc2 := HCell.out w2 hB2
  clear hb
  go_wp2_with fail
  have hB2d : Below w.heap.size w w2.drew := hB2.drew
  have hc2d : w2.drew.cell? ⟨b, o + i * 2, none⟩ = some (.string (mkS n)) := hc2
  go_region_held3 (fun w' => w'.cell? ⟨b, o + i * 2, none⟩ = some (.string (mkS n))) (first | go_keep | exact (by assumption)) (first | (go_at_call 101; refine (CK.out _ (by assumption)).mono ?_; rintro e w' ⟨v', rfl, hb', hc', ho'⟩) | (go_at_call 102; refine (OK2.out _ _ (by assumption) (by assumption)).mono ?_; rintro e w' ⟨rfl, hc', hb', ho', hf', hs'⟩) | (refine step_joinF (by rfl) _ _ (by rfl) w.heap.size _ _ (l.take i) [(n, x)] (by rfl) (by rfl) (by assumption) (by assumption) (fun _ _ h => by injection h with h1; cases h1) (by assumption) hli (by simp) ⟨b, o + i * 2, none⟩ _ hlt HCell.out (by assumption) ?_; intro v6 w6 ho6 hb6 hc6))
  go_ways
  have HB6 := Lib.hid hb6
  have HO6 := Lib.hid ho6
  clear hB2 hc2 hB2d hc2d hc' hb' hs' hb6 ho6
  have hw1 : IntKind.i64.wrap ((i : Int) + 1) = (i : Int) + 1 := IntWalk.i64_in _ (by omega)
  have hw2 : (0 : Int) ≤ (i : Int) + 1 := by omega
  have hw3 : ((i : Int) + 1).toNat = i + 1 := by omega
  have hw4 : (i : Int) + 1 ≤ (l.length : Int) := by omega
  have hd7 : (delF name (l.drop (i + 1))).length ≤ 1048576 := by
    have := delF_len name (l.drop (i + 1))
    rw [List.length_drop] at this; omega
  have hp7 : (l.take i ++ [(n, x)]).length ≤ 1048576 := by
    rw [List.length_append, List.length_take]; simp; omega
  by_cases hce : cap - (i + 1) = 0
  all_goals
    have HF : Hid (IsFlds w6 (.slice (some (if cap - (i + 1) = 0 then ⟨b, o, none⟩ else ⟨b, o + (i + 1) * 2, none⟩)) (l.length - (i + 1)) (cap - (i + 1))) (l.drop (i + 1))) := by
      show IsFlds _ _ _
      first
        | (rw [if_neg hce]; exact HSd.out _ HB6.out)
        | (rw [if_pos hce, hce, show l.length - (i + 1) = 0 by omega, List.drop_eq_nil_of_le (by omega)]
           exact ⟨_, 0, rfl, Nat.le_refl _, fun j f hj => by simp at hj⟩)
    first | rw [if_neg hce] at HF | rw [if_pos hce, hce] at HF
    have HD7 := Lib.hid (HDl.out _ _ _ HF.out (by simp))
    clear HF
    go_wp2_with fail
    refine HD7.out.mono ?_
    rintro e w7 ⟨v7, rfl, ho7, hb7⟩
    have HO7 := Lib.hid (own_keep2f HO6.out hb7)
    have HF7 := Lib.hid (isFlds_own ho7)
    have HNC := Lib.hid (isFlds_nil_cap ho7)
    have HB7 := Lib.hid (HB6.out.trans (hb7.mono HB6.out.size))
    have hs7 := HB7.out.size
    clear ho7 hb7
    go_wp2_with (at_builtin; refine joinF_guarded (by rfl) _ _ rfl w.heap.size _ _ (l.take i ++ [(n, x)]) (delF name (l.drop (i + 1))) rfl rfl HO7.out HF7.out HNC.out hs7 hp7 hd7 ?_)
    intro v8 w8 ho8 hg8
    have HB8 := Lib.hid (HB7.out.trans (below_of_grownF hg8 HO7.out hs7))
    have HO8 := Lib.hid ho8
    clear ho8 hg8
    go_wp2_with fail
    go_ret
    refine ⟨v8, rfl, ?_, HB8.out⟩
    rw [HSet.out, show (l.take i ++ (n, x) :: delF name (l.drop (i + 1))).length = min i l.length + ((delF name (l.drop (i + 1))).length + 1) by simp]
    exact HO8.out

theorem fset_any (v : Value) (l : List (Bs × Bs)) (name x : Bs) (w : World) (hs : IsFlds w v l)
    (hz : ∀ f ∈ l, f.1.length ≤ 1099511627776 ∧ f.2.length ≤ 1099511627776) (hn : name.length ≤ 1099511627776) (hx : x.length ≤ 1099511627776) (hl : l.length ≤ 1048575) :
    Calls Tryz.prog 63 #[v, .string (mkS name), .string (mkS x)] w (OwnPost (setF name x l) w) := by
  by_cases h : l.findIdx (isN name) < l.length
  · exact fset_yes v l name x w hs h hz hn hx (by omega)
  · exact fset_no v l name x w hs h hz hn hx (by omega)
end Tk
end Go.Proofs.YtdlbmfgajgefdaaGreatDoor
namespace Go.Proofs.YtdlbmfgajgefdaaGreatDoor
open Go.RowKit
namespace Tk

set_option maxHeartbeats 4000000 in
set_option maxRecDepth 100000 in
theorem join_none (c : Nat) (a : Option Addr) (sep : ByteArray) (w : World) :
    Calls Tryz.prog 98 #[.slice a 0 c, .string sep] w fun e w' => e = .returned (.string ⟨#[]⟩) ∧ Below w.heap.size w w' := by
  go_enter Tryz.func98, Tryz.ntmps98
  go_wp2_with fail
  go_ret
  exact ⟨rfl, Below.refl _ _⟩

set_option maxHeartbeats 4000000 in
set_option maxRecDepth 100000 in
theorem join_one (g c : Nat) (s sep : ByteArray) (w : World) (h : w.cell? ⟨g, 0, none⟩ = some (.string s)) :
    Calls Tryz.prog 98 #[.slice (some ⟨g, 0, none⟩) 1 c, .string sep] w fun e w' => e = .returned (.string s) ∧ Below w.heap.size w w' := by
  go_enter Tryz.func98, Tryz.ntmps98
  go_wp2_with fail
  go_ret
  exact ⟨rfl, Below.refl _ _⟩

/-- what Get tells of at most one value -/
def getS : List Bs → Bs
  | [x] => x
  | _ => []

set_option maxHeartbeats 4000000 in
set_option maxRecDepth 100000 in
theorem fget_one (v : Value) (l : List (Bs × Bs)) (name : Bs) (w : World) (hs : IsFlds w v l) (hz : ∀ f ∈ l, f.1.length ≤ 1099511627776 ∧ f.2.length ≤ 1099511627776) (hn : name.length ≤ 1099511627776) (hl : l.length ≤ 1048576)
    (h1 : (allF l name).length ≤ 1) :
    Calls Tryz.prog 62 #[v, .string (mkS name)] w fun e w' => e = .returned (.tuple #[.string (mkS (getS (allF l name))), .bool (decide (0 < (allF l name).length))]) ∧ Below w.heap.size w w' := by
  have HA := Lib.hid (fall_any v l name w hs hz hn hl)
  unfold ListPost at HA
  obtain ⟨a, cap, rfl⟩ : ∃ a cap, v = .slice a l.length cap := by obtain ⟨a, c, h, -⟩ := hs; exact ⟨a, c, h⟩
  clear hs hz
  generalize allF l name = P at *
  go_enter Tryz.func62, Tryz.ntmps62
  go_wp2_with fail
  refine HA.out.mono ?_
  rintro e w1 ⟨v1, rfl, ho, hb⟩
  have HB := Lib.hid hb
  rcases P with _ | ⟨x, P⟩
  · obtain ⟨a1, c1, rfl⟩ : ∃ a c, v1 = .slice a 0 c := by
      rcases ho.2 with ⟨hv, hn⟩ | ⟨g, cap, cur, hv, _⟩
      · exact ⟨none, 0, hv⟩
      · exact ⟨_, _, hv⟩
    clear ho hb
    go_wp2_with fail
    refine (join_none c1 a1 _ w1).mono ?_
    rintro e w2 ⟨rfl, hb⟩
    have HB2 := Lib.hid (HB.out.trans (hb.mono HB.out.size))
    clear hb
    go_wp2_with fail
    go_ret2
    exact ⟨rfl, HB2.out⟩
  · have hP : P = [] := by
      simp at h1
      exact h1
    subst hP
    obtain ⟨g, c1, rfl⟩ : ∃ g c, v1 = .slice (some ⟨g, 0, none⟩) 1 c := by
      rcases ho.2 with ⟨hv, hn⟩ | ⟨g, cap, cur, hv, _⟩
      · simp at hn
      · exact ⟨_, _, hv⟩
    have hc : w1.cell? ⟨g, 0, none⟩ = some (.string (mkS x)) := ho.cellAt 0 (by decide)
    clear ho hb
    go_wp2_with fail
    refine (join_one g c1 _ _ w1 hc).mono ?_
    rintro e w2 ⟨rfl, hb⟩
    have HB2 := Lib.hid (HB.out.trans (hb.mono HB.out.size))
    clear hb
    go_wp2_with fail
    go_ret2
    exact ⟨rfl, HB2.out⟩
end Tk
end Go.Proofs.YtdlbmfgajgefdaaGreatDoor
namespace Go.Proofs.YtdlbmfgajgefdaaGreatDoor
open Go.RowKit
namespace Tk

theorem allF_app (a b : List (Bs × Bs)) (name : Bs) : allF (a ++ b) name = allF a name ++ allF b name := by unfold allF; simp
theorem allF_none (l : List (Bs × Bs)) (name : Bs) (h : ∀ f ∈ l, isN name f = false) : allF l name = [] := by
  unfold allF
  rw [List.filter_eq_nil_iff.2 (fun f hf => by rw [h f hf]; simp)]; rfl
theorem allF_del (name : Bs) (l : List (Bs × Bs)) : allF (delF name l) name = [] := by
  refine allF_none _ _ fun f hf => ?_
  have := (List.mem_filter.1 hf).2
  simpa using this
theorem isN_other {name other : Bs} (h : lowL name ≠ lowL other) (f : Bs × Bs) (hf : isN other f = true) : isN name f = false := by
  unfold isN at *
  simp only [decide_eq_true_eq, decide_eq_false_iff_not] at *
  intro e; exact h (by rw [← e, ← hf])
theorem allF_del_other {name other : Bs} (h : lowL name ≠ lowL other) (l : List (Bs × Bs)) : allF (delF name l) other = allF l other := by
  unfold allF delF
  rw [List.filter_filter]
  congr 1
  apply List.filter_congr
  intro f _
  cases hf : isN other f
  · simp
  · simp [isN_other h f hf]
theorem delF_app (name : Bs) (a b : List (Bs × Bs)) : delF name (a ++ b) = delF name a ++ delF name b := by unfold delF; simp
theorem delF_del (name : Bs) (l : List (Bs × Bs)) : delF name (delF name l) = delF name l :=
  delF_all name _ fun f hf => by
    have := (List.mem_filter.1 hf).2
    simpa using this
theorem isN_eq (name : Bs) (f : Bs × Bs) (x : Bs) : isN name (f.1, x) = isN name f := rfl
theorem isN_self (name x : Bs) : isN name (name, x) = true := by simp [isN]

/-- a list with a field of this name, cut at the first of them -/
theorem cut_at (name : Bs) (l : List (Bs × Bs)) (h : l.findIdx (isN name) < l.length) :
    ∃ a f b, l = a ++ f :: b ∧ (∀ g ∈ a, isN name g = false) ∧ isN name f = true ∧ ∀ x, setF name x l = a ++ (f.1, x) :: delF name b := by
  refine ⟨l.take (l.findIdx (isN name)), l.getD (l.findIdx (isN name)) ([], []), l.drop (l.findIdx (isN name) + 1), ?_, find_before name l, find_hit name l h, fun x => ?_⟩
  · have : l.drop (l.findIdx (isN name)) = l.getD (l.findIdx (isN name)) ([], []) :: l.drop (l.findIdx (isN name) + 1) := by rw [List.drop_eq_getElem_cons h]; simp [List.getD, h]
    rw [← this, List.take_append_drop]
  · unfold setF; rw [if_pos h]

theorem allF_cons (f : Bs × Bs) (b : List (Bs × Bs)) (name : Bs) : allF (f :: b) name = (if isN name f then [f.2] else []) ++ allF b name := by
  unfold allF
  cases h : isN name f <;> simp [h]
theorem delF_cons (f : Bs × Bs) (b : List (Bs × Bs)) (name : Bs) : delF name (f :: b) = (if isN name f then [] else [f]) ++ delF name b := by
  unfold delF
  cases h : isN name f <;> simp [h]

theorem set_all (name x : Bs) (l : List (Bs × Bs)) : allF (setF name x l) name = [x] := by
  by_cases h : l.findIdx (isN name) < l.length
  · obtain ⟨a, f, b, -, ha, hf, hs⟩ := cut_at name l h
    rw [hs, allF_app, allF_none a name ha, allF_cons, isN_eq, hf, allF_del]; rfl
  · unfold setF
    rw [if_neg h, allF_app, allF_none l name (find_none name l h), allF_cons, isN_self]; rfl
theorem set_del (name x : Bs) (l : List (Bs × Bs)) : delF name (setF name x l) = delF name l := by
  by_cases h : l.findIdx (isN name) < l.length
  · obtain ⟨a, f, b, hl, ha, hf, hs⟩ := cut_at name l h
    rw [hs, hl, delF_app, delF_app, delF_cons, delF_cons, isN_eq, hf, delF_del]; rfl
  · unfold setF
    rw [if_neg h, delF_app, delF_cons, isN_self]
    show delF name l ++ ([] ++ delF name []) = delF name l
    simp [delF]
theorem set_len (name x : Bs) (l : List (Bs × Bs)) : (setF name x l).length = (delF name l).length + 1 := by
  by_cases h : l.findIdx (isN name) < l.length
  · obtain ⟨a, f, b, hl, ha, hf, hs⟩ := cut_at name l h
    rw [hs, hl, delF_app, delF_cons, hf, delF_all name a ha]; simp; omega
  · unfold setF
    rw [if_neg h, delF_all name l (find_none name l h)]; simp
theorem set_other {name other : Bs} (hne : lowL name ≠ lowL other) (x : Bs) (l : List (Bs × Bs)) : allF (setF name x l) other = allF l other := by
  have hno : ∀ f, isN name f = true → isN other f = false := fun f hf => isN_other (Ne.symm hne) f hf
  by_cases h : l.findIdx (isN name) < l.length
  · obtain ⟨a, f, b, hl, ha, hf, hs⟩ := cut_at name l h
    rw [hs, hl, allF_app, allF_app, allF_cons, allF_cons, isN_eq, hno f hf, allF_del_other hne]; rfl
  · unfold setF
    rw [if_neg h, allF_app, allF_cons, hno _ (isN_self name x)]
    simp [allF]
theorem del_set (name x : Bs) (l : List (Bs × Bs)) : setF name x (delF name l) = delF name l ++ [(name, x)] := by
  unfold setF
  rw [if_neg]
  intro h
  have h1 := find_hit name _ h
  have h2 := (List.mem_filter.1 (show (delF name l).getD ((delF name l).findIdx (isN name)) ([], []) ∈ delF name l by simp [List.getD, h])).2
  rw [h1] at h2
  cases h2
theorem sameFs_refl : ∀ l : List (Bs × Bs), sameFs l l = true
  | [] => rfl
  | f :: t => by rw [sameFs, sameFs_refl t]; simp [eqF]
end Tk
end Go.Proofs.YtdlbmfgajgefdaaGreatDoor
namespace Go.Proofs.YtdlbmfgajgefdaaGreatDoor
namespace Tk

/-- Connection, Via, Host, Content-Length, Expect -/
def cnB : Bs := [67, 111, 110, 110, 101, 99, 116, 105, 111, 110]
def viB : Bs := [86, 105, 97]
def hoB : Bs := [72, 111, 115, 116]
def clB : Bs := [67, 111, 110, 116, 101, 110, 116, 45, 76, 101, 110, 103, 116, 104]
def exB : Bs := [69, 120, 112, 101, 99, 116]
/-- the seven names -/
def hopN : List Bs := [[67, 111, 110, 110, 101, 99, 116, 105, 111, 110], [75, 101, 101, 112, 45, 65, 108, 105, 118, 101], [80, 114, 111, 120, 121, 45, 67, 111, 110, 110, 101, 99, 116, 105, 111, 110], [84, 69], [84, 114, 97, 105, 108, 101, 114], [84, 114, 97, 110, 115, 102, 101, 114, 45, 69, 110, 99, 111, 100, 105, 110, 103], [85, 112, 103, 114, 97, 100, 101]]
def hopL : List Bs := hopN.map lowL
def isHop (n : Bs) : Bool := decide (lowL n ∈ hopL)
/-- is the name of this field, in small letters, in the set? -/
def inS (S : List Bs) (f : Bs × Bs) : Bool := decide (lowL f.1 ∈ S)
/-- the fields whose names are not in the set -/
def wipe (S : List Bs) (l : List (Bs × Bs)) : List (Bs × Bs) := l.filter fun f => !inS S f
/-- what Connection names, in small letters -/
def optS (l : List (Bs × Bs)) : List Bs := (listF l cnB).map lowL
def goneS (more : List Bs) (l : List (Bs × Bs)) : List Bs := hopL ++ optS l ++ more.map lowL
def withL (more : List Bs) (l : List (Bs × Bs)) : List (Bs × Bs) := wipe (goneS more l) l
def stripL (l : List (Bs × Bs)) : List (Bs × Bs) := withL [] l
def digI (n : Int) : Bs := Lib.itoa n
def viaS (minor : Int) (name : Bs) : Bs := [49, 46] ++ digI minor ++ [32] ++ name
def viaV (l : List (Bs × Bs)) (minor : Int) (name : Bs) : Bs := if 0 < (allF l viB).length then joinB (allF l viB) ++ [44, 32] ++ viaS minor name else viaS minor name
def viaL (l : List (Bs × Bs)) (minor : Int) (name : Bs) : List (Bs × Bs) := setF viB (viaV l minor name) l
def hosL (l : List (Bs × Bs)) : List (Bs × Bs) := if 0 < (allF l hoB).length then l else l ++ [(hoB, [])]
def keptL (m : Bs) (l : List (Bs × Bs)) : List (Bs × Bs) := if m = [] then withL [clB] l else hosL (withL [clB, exB] l)
def forwL (m : Bs) (l : List (Bs × Bs)) (minor : Int) (name : Bs) : List (Bs × Bs) := viaL (keptL m l) minor name
def clsB : Bs := [99, 108, 111, 115, 101]
def kalB : Bs := [107, 101, 101, 112, 45, 97, 108, 105, 118, 101]
def closesB (l : List (Bs × Bs)) (minor : Int) : Bool := decide (clsB ∈ optS l) || (decide (minor = 0) && !decide (kalB ∈ optS l))

theorem hop_low : ∀ x ∈ hopL, lowL x = x := by decide
theorem cn_hop : lowL cnB ∈ hopL := by decide
theorem vi_hop : lowL viB ∉ hopL := by decide
theorem ho_hop : lowL hoB ∉ hopL := by decide
theorem vi_ho : lowL viB ≠ lowL hoB := by decide
theorem vi_cl : lowL viB ≠ lowL clB := by decide
theorem vi_ex : lowL viB ≠ lowL exB := by decide
theorem ho_cl : lowL hoB ≠ lowL clB := by decide
theorem ho_ex : lowL hoB ≠ lowL exB := by decide

theorem wipe_snoc (S : List Bs) (l : List (Bs × Bs)) (f : Bs × Bs) : wipe S (l ++ [f]) = wipe S l ++ (if inS S f then [] else [f]) := by
  unfold wipe
  cases h : inS S f <;> simp [h]
theorem wipe_app (S : List Bs) (a b : List (Bs × Bs)) : wipe S (a ++ b) = wipe S a ++ wipe S b := by unfold wipe; simp
theorem wipe_all (S : List Bs) (l : List (Bs × Bs)) (h : ∀ f ∈ l, inS S f = false) : wipe S l = l := by
  unfold wipe
  rw [List.filter_eq_self]
  intro f hf
  rw [h f hf]; rfl
theorem wipe_len (S : List Bs) (l : List (Bs × Bs)) : (wipe S l).length ≤ l.length := List.length_filter_le _ _
theorem wipe_mem (S : List Bs) (l : List (Bs × Bs)) (f : Bs × Bs) (h : f ∈ wipe S l) : f ∈ l ∧ lowL f.1 ∉ S := by
  have h2 := List.mem_filter.1 h
  refine ⟨h2.1, fun e => ?_⟩
  have := h2.2
  unfold inS at this
  rw [decide_eq_true e] at this
  cases this
theorem wipe_wipe (S T : List Bs) (l : List (Bs × Bs)) : wipe S (wipe T l) = wipe (T ++ S) l := by
  unfold wipe
  rw [List.filter_filter]
  apply List.filter_congr
  intro f _
  unfold inS
  rw [Bool.eq_iff_iff]
  simp [and_comm]
theorem wipe_congr (S T : List Bs) (l : List (Bs × Bs)) (h : ∀ x, x ∈ S ↔ x ∈ T) : wipe S l = wipe T l := by
  unfold wipe
  apply List.filter_congr
  intro f _
  unfold inS
  congr 2
  exact propext (h _)
theorem del_wipe (name : Bs) (l : List (Bs × Bs)) : delF name l = wipe [lowL name] l := by
  unfold delF wipe
  apply List.filter_congr
  intro f _
  unfold isN inS
  simp
theorem allF_wipe (S : List Bs) (l : List (Bs × Bs)) (name : Bs) : allF (wipe S l) name = if lowL name ∈ S then [] else allF l name := by
  unfold allF wipe
  rw [List.filter_filter]
  by_cases h : lowL name ∈ S
  · rw [if_pos h, List.filter_eq_nil_iff.2]; rfl
    intro f _
    unfold isN inS
    by_cases e : lowL f.1 = lowL name
    · simp [e, h]
    · simp [e]
  · rw [if_neg h]
    congr 1
    apply List.filter_congr
    intro f _
    unfold isN inS
    by_cases e : lowL f.1 = lowL name
    · simp [e, h]
    · simp [e]
theorem listF_wipe (S : List Bs) (l : List (Bs × Bs)) (name : Bs) (h : lowL name ∈ S) : listF (wipe S l) name = [] := by
  unfold listF; rw [allF_wipe, if_pos h]; rfl
theorem gone_hop (more : List Bs) (l : List (Bs × Bs)) (x : Bs) (h : x ∈ hopL) : x ∈ goneS more l := by unfold goneS; simp [h]
theorem opt_with (more : List Bs) (l : List (Bs × Bs)) : optS (withL more l) = [] := by
  unfold optS withL
  rw [listF_wipe _ _ _ (gone_hop more l _ cn_hop)]; rfl
theorem strip_strip (l : List (Bs × Bs)) : stripL (stripL l) = stripL l := by
  refine wipe_all _ _ fun f hf => ?_
  have h := (wipe_mem _ _ _ hf).2
  unfold inS goneS
  unfold goneS at h
  rw [show stripL l = withL [] l from rfl, opt_with]
  simp only [List.map_nil, List.append_nil] at *
  simp only [List.mem_append, not_or] at h
  simp [h.1]
theorem strip_all (l : List (Bs × Bs)) (name : Bs) : allF (stripL l) name = if lowL name ∈ hopL ∨ lowL name ∈ optS l then [] else allF l name := by
  unfold stripL withL
  rw [allF_wipe]
  unfold goneS
  simp
theorem strip_len (l : List (Bs × Bs)) : (stripL l).length ≤ l.length := wipe_len _ _
/-- what Forward leaves, in the document's steps -/
theorem with_one (a : Bs) (l : List (Bs × Bs)) : withL [a] l = delF a (stripL l) := by
  rw [del_wipe]
  unfold stripL withL
  rw [wipe_wipe]
  apply wipe_congr
  intro x
  unfold goneS
  simp
theorem with_two (a b : Bs) (l : List (Bs × Bs)) : withL [a, b] l = delF b (delF a (stripL l)) := by
  rw [del_wipe, del_wipe]
  unfold stripL withL
  rw [wipe_wipe, wipe_wipe]
  apply wipe_congr
  intro x
  unfold goneS
  simp

/-! ### what is passed on -/
theorem set_mem (name x : Bs) (l : List (Bs × Bs)) (f : Bs × Bs) (h : f ∈ setF name x l) : lowL f.1 = lowL name ∨ f ∈ l := by
  by_cases hc : l.findIdx (isN name) < l.length
  · obtain ⟨a, g, b, hl, ha, hg, hs⟩ := cut_at name l hc
    rw [hs] at h
    rw [hl]
    rcases List.mem_append.1 h with h | h
    · exact .inr (by simp [h])
    · rcases List.mem_cons.1 h with h | h
      · left
        rw [h]
        exact of_decide_eq_true hg
      · exact .inr (by simp [(List.mem_filter.1 h).1])
  · unfold setF at h
    rw [if_neg hc] at h
    rcases List.mem_append.1 h with h | h
    · exact .inr h
    · left
      rw [List.mem_singleton] at h
      rw [h]
theorem hos_mem (l : List (Bs × Bs)) (f : Bs × Bs) (h : f ∈ hosL l) : f ∈ l ∨ f = (hoB, []) := by
  unfold hosL at h
  split at h
  · exact .inl h
  · simpa using h
theorem forw_mem (m : Bs) (l : List (Bs × Bs)) (minor : Int) (p : Bs) (f : Bs × Bs) (h : f ∈ forwL m l minor p) :
    lowL f.1 = lowL viB ∨ (m ≠ [] ∧ lowL f.1 = lowL hoB) ∨ (lowL f.1 ∉ hopL ∧ lowL f.1 ∉ optS l ∧ lowL f.1 ≠ lowL clB ∧ (m ≠ [] → lowL f.1 ≠ lowL exB)) := by
  rcases set_mem _ _ _ _ h with h | h
  · exact .inl h
  unfold keptL at h
  by_cases hm : m = []
  · rw [if_pos hm] at h
    have h2 := (wipe_mem _ _ _ h).2
    unfold goneS at h2
    simp only [List.map_cons, List.map_nil, List.mem_append, List.mem_cons, List.not_mem_nil, or_false, not_or] at h2
    exact .inr (.inr ⟨h2.1.1, h2.1.2, h2.2, fun e => absurd hm e⟩)
  · rw [if_neg hm] at h
    rcases hos_mem _ _ h with h | h
    · have h2 := (wipe_mem _ _ _ h).2
      unfold goneS at h2
      simp only [List.map_cons, List.map_nil, List.mem_append, List.mem_cons, List.not_mem_nil, or_false, not_or] at h2
      exact .inr (.inr ⟨h2.1.1, h2.1.2, h2.2.1, fun _ => h2.2.2⟩)
    · exact .inr (.inl ⟨hm, by rw [h]⟩)
theorem forw_hop (m : Bs) (l : List (Bs × Bs)) (minor : Int) (p : Bs) (f : Bs × Bs) (h : f ∈ forwL m l minor p) : isHop f.1 = false := by
  unfold isHop
  rw [decide_eq_false_iff_not]
  rcases forw_mem m l minor p f h with h | ⟨-, h⟩ | h
  · rw [h]; exact vi_hop
  · rw [h]; exact ho_hop
  · exact h.1
theorem allF_pos (l : List (Bs × Bs)) (name : Bs) (h : 0 < (allF l name).length) : ∃ f ∈ l, lowL f.1 = lowL name := by
  unfold allF at h
  rw [List.length_map] at h
  obtain ⟨f, hf⟩ := List.exists_mem_of_length_pos h
  have := List.mem_filter.1 hf
  exact ⟨f, this.1, of_decide_eq_true this.2⟩
/-- a field that Connection named is not passed on, but for the proxy's own -/
theorem forw_named (m : Bs) (l : List (Bs × Bs)) (minor : Int) (p x : Bs) (hx : x ∈ listF l cnB) (h : 0 < (allF (forwL m l minor p) x).length) : lowL x = lowL viB ∨ (m ≠ [] ∧ lowL x = lowL hoB) := by
  obtain ⟨f, hf, he⟩ := allF_pos _ _ h
  have ho : lowL x ∈ optS l := List.mem_map.2 ⟨x, hx, rfl⟩
  rcases forw_mem m l minor p f hf with h | ⟨h1, h⟩ | h
  · exact .inl (by rw [← he, h])
  · exact .inr ⟨h1, by rw [← he, h]⟩
  · rw [he] at h
    exact absurd ho h.2.1
theorem forw_opt (m : Bs) (l : List (Bs × Bs)) (minor : Int) (p : Bs) : optS (forwL m l minor p) = [] := by
  unfold optS listF
  rw [allF_none]; rfl
  intro f hf
  have h := forw_hop m l minor p f hf
  unfold isHop at h
  rw [decide_eq_false_iff_not] at h
  unfold isN
  rw [decide_eq_false_iff_not]
  intro e
  rw [e] at h
  exact h cn_hop
theorem hos_has (l : List (Bs × Bs)) : 0 < (allF (hosL l) hoB).length := by
  unfold hosL
  split
  · assumption
  · rw [allF_app, allF_cons, isN_self, List.length_append]; simp; omega
/-- what is passed on again is passed on as it is -/
theorem forw_kept (m : Bs) (l : List (Bs × Bs)) (minor : Int) (p : Bs) : keptL m (forwL m l minor p) = forwL m l minor p := by
  have hm := forw_mem m l minor p
  have ho := forw_opt m l minor p
  have hin : ∀ (more : List Bs), (∀ x ∈ more, x = clB ∨ (m ≠ [] ∧ x = exB)) → withL more (forwL m l minor p) = forwL m l minor p := by
    intro more hmore
    refine wipe_all _ _ fun f hf => ?_
    unfold inS goneS
    rw [ho, decide_eq_false_iff_not]
    simp only [List.mem_append, List.not_mem_nil, or_false, not_or]
    have hno := forw_hop m l minor p f hf
    unfold isHop at hno
    rw [decide_eq_false_iff_not] at hno
    refine ⟨hno, fun h => ?_⟩
    rw [List.mem_map] at h
    obtain ⟨x, hx, e⟩ := h
    rcases hmore x hx with rfl | ⟨hne, rfl⟩
    · rcases hm f hf with h | ⟨-, h⟩ | h
      · exact vi_cl (h ▸ e.symm)
      · exact ho_cl (h ▸ e.symm)
      · exact h.2.2.1 e.symm
    · rcases hm f hf with h | ⟨-, h⟩ | h
      · exact vi_ex (h ▸ e.symm)
      · exact ho_ex (h ▸ e.symm)
      · exact h.2.2.2 hne e.symm
  unfold keptL
  by_cases hmm : m = []
  · rw [if_pos hmm]
    exact hin [clB] (by simp)
  · rw [if_neg hmm, hin [clB, exB] (by intro x hx; simp at hx; rcases hx with rfl | rfl; exact .inl rfl; exact .inr ⟨hmm, rfl⟩)]
    unfold hosL
    rw [if_pos]
    unfold forwL viaL
    rw [set_other vi_ho]
    unfold keptL
    rw [if_neg hmm]
    exact hos_has _
theorem forw_via (m : Bs) (l : List (Bs × Bs)) (minor : Int) (p : Bs) : allF (forwL m l minor p) viB = [viaV (keptL m l) minor p] := set_all _ _ _
theorem joinB_one (x : Bs) : joinB [x] = x := by unfold joinB Lib.join; simp [List.intercalate]
/-- passed on twice: one more name in Via .. -/
theorem forw_twice (m : Bs) (l : List (Bs × Bs)) (minor : Int) (p q : Bs) : joinB (allF (forwL m (forwL m l minor p) 1 q) viB) = joinB (allF (forwL m l minor p) viB) ++ ([44, 32] ++ viaS 1 q) := by
  rw [forw_via, joinB_one]
  unfold viaV
  rw [forw_kept, forw_via, if_pos (by simp), joinB_one, List.append_assoc]
/-- .. and otherwise the same -/
theorem forw_same (m : Bs) (l : List (Bs × Bs)) (minor : Int) (p q : Bs) : delF viB (forwL m (forwL m l minor p) 1 q) = delF viB (forwL m l minor p) := by
  show delF viB (setF viB (viaV (keptL m (forwL m l minor p)) 1 q) (keptL m (forwL m l minor p))) = _
  rw [forw_kept, set_del]
theorem via_has (m : Bs) (l : List (Bs × Bs)) (minor : Int) (p : Bs) : 0 < (allF (forwL m l minor p) viB).length := by rw [forw_via]; simp

/-! ### one more name in Connection -/
theorem strip_more (l : List (Bs × Bs)) (c y : Bs) (names : List Bs) (hc : lowL c = lowL cnB) (hy : splitL y = names) : stripL (l ++ [(c, y)]) = wipe (names.map lowL) (stripL l) := by
  have ho : optS (l ++ [(c, y)]) = optS l ++ names.map lowL := by
    unfold optS listF
    rw [allF_app, allF_cons, show isN cnB (c, y) = true from decide_eq_true hc]
    simp [allF, hy]
  unfold stripL withL goneS
  rw [ho, wipe_app, wipe_wipe]
  rw [show wipe (hopL ++ (optS l ++ names.map lowL) ++ List.map lowL []) [(c, y)] = [] by
    unfold wipe
    rw [List.filter_eq_nil_iff]
    intro f hf
    rw [List.mem_singleton] at hf
    subst hf
    unfold inS
    have : lowL c ∈ hopL := by rw [hc]; exact cn_hop
    simp [this]]
  rw [List.append_nil]
  apply wipe_congr
  intro x
  simp
end Tk
end Go.Proofs.YtdlbmfgajgefdaaGreatDoor
namespace Go.Proofs.YtdlbmfgajgefdaaGreatDoor
open Go.RowKit
namespace Tk

/-- the byte at place t when the first i are in small letters -/
def mixAt (l : Bs) (i t : Nat) : UInt8 := if t < i then lowB (l.getD t 0) else l.getD t 0

theorem bytesRow_at (s : ByteArray) (cap t : Nat) (h : t < s.size) : (bytesRow s cap)[t]? = some (.int .u8 (((bs s).getD t 0).toNat : Int)) := by
  unfold bytesRow
  rw [Array.getElem?_append_left (by simpa using h), Array.getElem?_map]
  have e : (bs s).getD t 0 = s.data[t]'h := by rw [getD_bs s t h]; rfl
  rw [e, Array.getElem?_eq_getElem h]; rfl

set_option maxRecDepth 100000 in
set_option maxHeartbeats 1000000 in
theorem tlower_any (s : ByteArray) (w : World) (hs : s.size ≤ 1099511627776) :
    Calls Tryz.prog 91 #[.string s] w (StrPost (lowL (bs s)) w) := by
  have HL := Lib.hid (length_bs s)
  have hconv := run_bytes_of_string (P := Tryz.prog) w 9 84 5 s Tryz.underlying9 Tryz.underlying84 Tryz.underlying5
  have hC : ∀ t, t < s.size → (bytesRow s (grownCap w s.size 0 5))[t]? = some (.int .u8 (((bs s).getD t 0).toNat : Int)) := fun t h => bytesRow_at s _ t h
  generalize bytesRow s (grownCap w s.size 0 5) = C at *
  generalize grownCap w s.size 0 5 = cap at *
  have HC := Lib.hid hC
  clear hC
  go_enter Tryz.func91, Tryz.ntmps91
  go_wp2_with fail
  go_loopw [10, 4, 5] (fun vi _ _ wr => ∃ i : Nat, i ≤ s.size ∧ vi = .int .i64 i ∧ Hid (∀ t, t < s.size → wr.cell? ⟨w.heap.size, t, none⟩ = some (.int .u8 ((mixAt (bs s) i t).toNat : Int)) ∧ wr.frozen? ⟨w.heap.size, t, none⟩ = false) ∧ Hid (Below w.heap.size w wr)) (fun vi _ _ _ => s.size - (RowKit.intOf vi).toNat)
  case atStart =>
    refine ⟨0, Nat.zero_le _, rfl, ?_, ?_⟩
    · intro t ht
      have h1 : ((w.alloc (.cells C 5 (C.size, C.size + 1))).drew).cell? ⟨w.heap.size, t, none⟩ = C[t]? := World.cell?_alloc_mark w C 5 _ t
      have hlt : t < C.size := by
        refine Nat.lt_of_not_le fun hle => ?_
        have := HC.out t ht
        rw [Array.getElem?_eq_none hle] at this
        cases this
      have h2 : ((w.alloc (.cells C 5 (C.size, C.size + 1))).drew).frozen? ⟨w.heap.size, t, none⟩ = _ := World.frozen?_alloc_mark w C 5 _ _ t
      refine ⟨by rw [h1, HC.out t ht]; rfl, ?_⟩
      rw [h2]
      simp; omega
    · exact ((Below.refl _ _).alloc (Nat.le_refl _) _).drew
  case round =>
    obtain ⟨i, hi, rfl, HM, HB⟩ := hrel
    rename World => W
    by_cases hlt : i < s.size
    · obtain ⟨hc, hf⟩ := HM.out i hlt
      have e : mixAt (bs s) i i = (bs s).getD i 0 := by unfold mixAt; rw [if_neg (by omega)]
      rw [e] at hc
      have HM2 : Hid (∀ t, t < s.size → (W.setCell ⟨w.heap.size, i, none⟩ (.int .u8 ((lowB ((bs s).getD i 0)).toNat : Int))).cell? ⟨w.heap.size, t, none⟩ = some (.int .u8 ((mixAt (bs s) (i + 1) t).toNat : Int)) ∧ (W.setCell ⟨w.heap.size, i, none⟩ (.int .u8 ((lowB ((bs s).getD i 0)).toNat : Int))).frozen? ⟨w.heap.size, t, none⟩ = false) := by
        intro t ht
        obtain ⟨h1, h2⟩ := HM.out t ht
        refine ⟨?_, by rw [World.frozen?_setCell]; exact h2⟩
        by_cases hti : t = i
        · subst hti
          rw [World.cell?_setCell_same _ _ _ hc]
          unfold mixAt; rw [if_pos (by omega)]
        · rw [World.cell?_setCell_other (w := W) (a := ⟨w.heap.size, i, none⟩) (b := ⟨w.heap.size, t, none⟩) (h := by intro e; injection e with _ e2; exact hti e2.symm), h1]
          have : mixAt (bs s) i t = mixAt (bs s) (i + 1) t := by
            unfold mixAt
            by_cases h3 : t < i
            · rw [if_pos h3, if_pos (by omega)]
            · rw [if_neg h3, if_neg (by omega)]
          rw [this]
      have HB2 := Lib.hid (HB.out.setCell (p := ⟨w.heap.size, i, none⟩) (Nat.le_refl _) (.int .u8 ((lowB ((bs s).getD i 0)).toNat : Int)))
      generalize (bs s).getD i 0 = c at *
      go_wp2_with fail
      refine (lower_any c W).mono ?_
      rintro e w' ⟨rfl, rfl⟩
      go_wp2_with fail
      go_roundw
      case rel => exact ⟨i + 1, by omega, by go_num, HM2, HB2⟩
      case measure => simp [RowKit.intOf]; omega
    · have hlen : (lowL (bs s)).length = s.size := by rw [length_lowL, HL.out]
      have hback := run_convert_bytes_back (P := Tryz.prog) W 84 9 5 ⟨w.heap.size, 0, none⟩ cap (lowL (bs s)) Tryz.underlying84 Tryz.underlying5 Tryz.underlying9 (fun j hj => by
        have hj' : j < s.size := by rw [hlen] at hj; exact hj
        have h1 := (HM.out j hj').1
        have e : mixAt (bs s) i j = (lowL (bs s))[j] := by
          have hjl : j < (bs s).length := by rw [HL.out]; exact hj'
          have e2 : (lowL (bs s))[j] = lowB ((bs s)[j]'hjl) := by simp [lowL]
          unfold mixAt
          rw [if_pos (by omega), e2]
          simp [List.getD, hjl]
        rw [e] at h1
        by_cases hj0 : j = 0
        · subst hj0; simpa [Addr.add] using h1
        · simpa [Addr.add, hj0] using h1)
      rw [hlen] at hback
      go_wp2_with fail
      go_ret
      exact ⟨rfl, HB.out⟩
end Tk
end Go.Proofs.YtdlbmfgajgefdaaGreatDoor
namespace Go.Proofs.YtdlbmfgajgefdaaGreatDoor
open Go.RowKit Go.Maps Go.WideMaps
namespace Tk

theorem unitZero (w : World) : (zeroValue 106).run Tryz.prog w = .ok (.agg #[]) w := by kernel_rfl
theorem strKey : Maps.Keyed Tryz.prog 9 := string_keyed Tryz.underlying9
theorem keyIs (x : Bs) (h : x.length ≤ 1099511627776) : keyOf Tryz.prog 9 (.string (mkS x)) = some (.string x) := by
  have h := keyOf_string_mk Tryz.underlying9 (s := mkS x) (by rw [size_mkS]; simp only [maxLen]; omega)
  rw [h]; exact congrArg (fun y => some (Lit.string y)) (bs_mkS x)

/-- block b is a map to nothing whose keys are these names -/
def SetIs (w : World) (b : Nat) (S : List Bs) : Prop :=
  ∃ D : DataW Unit, w.ownsMap Tryz.prog 9 (unitElem (H := Unit)) b S.length D ∧ Maps.IsMap D ∧ ∀ x : Bs, Maps.has D (.string x) = decide (x ∈ S)
theorem SetIs.made (w : World) : SetIs (w.alloc (.map #[] 0)) w.heap.size [] :=
  ⟨.map [], World.ownsMap_made _ _ _ _, Maps.isMap_empty, fun x => by simp [Maps.has_eq]⟩
theorem SetIs.lt {w : World} {b : Nat} {S : List Bs} (h : SetIs w b S) : b < w.heap.size := by
  obtain ⟨D, h, -⟩ := h
  exact h.lt
theorem SetIs.kept {w w' : World} {b : Nat} {S : List Bs} {r : Option Nat} (h : SetIs w b S) (hg : w.grownBy w' r) (hr : some b ≠ r) : SetIs w' b S := by
  obtain ⟨D, h1, h2⟩ := h
  exact ⟨D, h1.kept hg hr, h2⟩
theorem grown_below {w w' : World} (h : Below w.heap.size w w') (r : Option Nat) : w.grownBy w' r := ⟨h.os, h.tape, h.output, h.size, fun k hk _ => h.block k hk⟩
theorem SetIs.later {w w' : World} {b : Nat} {S : List Bs} (h : SetIs w b S) (hb : Below w.heap.size w w') : SetIs w' b S := h.kept (grown_below hb none) (by simp)
theorem SetIs.more {w' : World} {b : Nat} {S : List Bs} {x : Bs} {D : DataW Unit} (hI : Maps.IsMap D) (hH : ∀ x : Bs, Maps.has D (.string x) = decide (x ∈ S))
    (h : w'.ownsMap Tryz.prog 9 (unitElem (H := Unit)) b (S.length + 1) (D.put (.string x) (.agg []))) : SetIs w' b (S ++ [x]) := by
  refine ⟨_, by rw [List.length_append]; exact h, hI.put _ _, fun y => ?_⟩
  by_cases e : y = x
  · subst e
    rw [Maps.has_put_same hI (by simp [WideAt.IsKeyLit]), decide_eq_true (by simp)]
  · rw [Maps.has_put_other (fun h => e (by injection h)), hH]
    simp [e]
theorem SetIs.cong {w : World} {b : Nat} {S T : List Bs} (h : SetIs w b S) (e : S = T) : SetIs w b T := e ▸ h
theorem grown_trans {a b c : World} {r : Option Nat} (h : a.grownBy b r) (k : b.grownBy c r) : a.grownBy c r :=
  ⟨k.os.trans h.os, k.tape.trans h.tape, k.output.trans h.output, Nat.le_trans h.size k.size, fun i hi hne => (k.block i (Nat.lt_of_lt_of_le hi h.size) hne).trans (h.block i hi hne)⟩
theorem grown_refl (a : World) (r : Option Nat) : a.grownBy a r := ⟨rfl, rfl, rfl, Nat.le_refl _, fun _ _ _ => rfl⟩
theorem below_of_set {a b : World} {B k : Nat} (h : a.grownBy b (some k)) (hk : B ≤ k) (hB : B ≤ a.heap.size) : Below B a b :=
  ⟨h.os, h.tape, h.output, h.size, fun i hi => h.block i (by omega) (by intro e; injection e with e; omega)⟩
theorem isStrs_grown {a b : World} {r : Option Nat} {v : Value} {l : List Bs} (h : IsStrs a v l) (hg : a.grownBy b r) (hr : ∀ k, r = some k → v.ownBlock ≠ some k) : IsStrs b v l := by
  obtain ⟨ad, c, rfl, hc⟩ := h
  refine ⟨ad, c, rfl, fun j t hj => ?_⟩
  obtain ⟨k, o, rfl, hcell⟩ := hc j t hj
  refine ⟨k, o, rfl, hg.cell hcell fun e => hr k e.symm rfl⟩

set_option maxHeartbeats 2000000 in
set_option maxRecDepth 100000 in
theorem has_any (b : Nat) (S : List Bs) (name : Bs) (w : World) (hS : SetIs w b S) (hn : name.length ≤ 1099511627776) :
    Calls Tryz.prog 55 #[.map (some b), .string (mkS name)] w fun e w' => e = .returned (.bool (decide (lowL name ∈ S))) ∧ Below w.heap.size w w' := by
  have HL : Hid (∀ W : World, Calls Tryz.prog 91 #[.string (mkS name)] W (StrPost (lowL name) W)) := fun W => by
    have h := tlower_any (mkS name) W (by rw [size_mkS]; omega)
    rw [bs_mkS] at h
    exact h
  have HK := Lib.hid (keyIs (lowL name) (by rw [length_lowL]; exact hn))
  have HS := Lib.hid hS
  clear hS
  go_enter Tryz.func55, Tryz.ntmps55
  go_wp2_with fail
  refine (HL.out _).mono ?_
  rintro e w1 ⟨rfl, hb⟩
  obtain ⟨D, hM, hI, hH⟩ := HS.out.later hb
  have HB := Lib.hid hb
  have HM := Lib.hid hM
  have hhas : Maps.has D (.string (lowL name)) = decide (lowL name ∈ S) := hH _
  have hsz := hb.size
  clear hb hM hI hH
  generalize hd : decide (lowL name ∈ S) = d at *
  have HD := Lib.hid hd
  clear hd
  go_wp2_with (at_lookup; refine wpList_lookup_own_unit _ rfl _ _ 74 rfl 9 106 strKey Tryz.underlying74 (unitZero _) b _ D rfl HM.out _ (.string (lowL name)) rfl HK.out ?_)
  go_ret
  exact ⟨by rw [HD.out]; rfl, HB.out.alloc hsz _⟩

set_option maxHeartbeats 4000000 in
set_option maxRecDepth 100000 in
theorem add_any (b : Nat) (S L : List Bs) (v : Value) (w : World) (hS : SetIs w b S) (hs : IsStrs w v L) (hv : v.ownBlock ≠ some b) (hz : ∀ x ∈ L, x.length ≤ 1099511627776) (hl : L.length ≤ 1048576) (hl2 : S.length ≤ 1048576) :
    Calls Tryz.prog 67 #[.map (some b), v] w fun e w' => e = .returned (.tuple #[]) ∧ SetIs w' b (S ++ L.map lowL) ∧ w.grownBy w' (some b) := by
  have HL : Hid (∀ (x : Bs) (W : World), x.length ≤ 1099511627776 → Calls Tryz.prog 91 #[.string (mkS x)] W (StrPost (lowL x) W)) := fun x W hx => by
    have h := tlower_any (mkS x) W (by rw [size_mkS]; omega)
    rw [bs_mkS] at h
    exact h
  have HS := Lib.hid hs
  have HZ := Lib.hid hz
  have HV := Lib.hid hv
  have HSet := Lib.hid hS
  obtain ⟨a, cap, rfl⟩ : ∃ a cap, v = .slice a L.length cap := by obtain ⟨a, c, h, -⟩ := hs; exact ⟨a, c, h⟩
  clear hs hz hv hS
  go_enter Tryz.func67, Tryz.ntmps67
  go_wp2_with fail
  go_loopw [8] (fun vi wr => ∃ i : Nat, i ≤ L.length ∧ vi = .int .i64 i ∧ Hid (SetIs wr b (S ++ (L.take i).map lowL)) ∧ Hid (w.grownBy wr (some b))) (fun vi _ => L.length - (RowKit.intOf vi).toNat)
  case atStart => exact ⟨0, Nat.zero_le _, rfl, SetIs.cong HSet.out (by simp), grown_refl _ _⟩
  case round =>
    obtain ⟨i, hi, rfl, HI, HG⟩ := hrel
    rename World => W
    by_cases hlt : i < L.length
    · obtain ⟨a', c', e', hc⟩ := isStrs_grown HS.out HG.out (fun k e => by cases e; exact HV.out)
      injection e' with e1 _ e2
      subst e1 e2
      obtain ⟨k, o, rfl, hc0⟩ := hc i (L.getD i []) (by simp [List.getD, hlt])
      have hm := HZ.out (L.getD i []) (by simp [List.getD, hlt])
      have htk : (L.take (i + 1)).map lowL = (L.take i).map lowL ++ [lowL (L.getD i [])] := by
        rw [List.take_succ_eq_append_getElem hlt, List.map_append, show L.getD i [] = L[i] by simp [List.getD, hlt]]; rfl
      have HTK := Lib.hid htk
      clear hc htk
      generalize L.getD i [] = x at *
      have HK := Lib.hid (keyIs (lowL x) (by rw [length_lowL]; exact hm))
      have HC := Lib.hid (HL.out x W hm)
      have g0 : (0 : Int) ≤ (i : Int) := by omega
      have g1 : (i : Int) < (L.length : Int) := by omega
      have hlen : (S ++ (L.take i).map lowL).length < maxLen := by simp [maxLen]; omega
      go_wp2_with fail
      refine HC.out.mono ?_
      rintro e w1 ⟨rfl, hb⟩
      obtain ⟨D, hM, hI, hH⟩ := HI.out.later hb
      have HG1 := Lib.hid (grown_trans HG.out (grown_below hb (some b)))
      have HM := Lib.hid hM
      have HIs := Lib.hid hI
      have HH := Lib.hid hH
      clear hb hM hI hH
      go_wp2_with (first
        | (at_mapUpdate; refine wpList_mapUpdate_own _ rfl _ _ _ 74 rfl 9 106 strKey Tryz.underlying74 unitElem b _ D rfl HM.out hlen _ _ (.string (lowL x)) rfl rfl HK.out (.agg []) [] unitElem_mk ?_; intro w2 hown2 hgrow2; have HS2 := Lib.hid (SetIs.more HIs.out HH.out hown2); have HG2 := Lib.hid (grown_trans HG1.out hgrow2); clear hown2 hgrow2))
      refine ⟨⟨i + 1, hlt, by go_num, ?_, HG2⟩, by simp [RowKit.intOf]; omega⟩
      show SetIs _ _ _
      rw [HTK.out, ← List.append_assoc]
      exact HS2.out
    · obtain rfl : i = L.length := by omega
      have hfin := HI.out
      rw [List.take_length] at hfin
      have HF := Lib.hid hfin
      clear hfin
      go_wp2_with fail
      refine bodyPost_end (v := .tuple #[]) ?_ rfl ⟨rfl, HF.out, HG.out⟩
      simp [results, Tryz.results67, go_sem]

set_option maxHeartbeats 4000000 in
set_option maxRecDepth 100000 in
theorem always_any (w : World) :
    Calls Tryz.prog 56 #[] w fun e w' => e = .returned (.map (some w.heap.size)) ∧ SetIs w' w.heap.size hopL ∧ Below w.heap.size w w' := by
  have hmm := @run_makeMap Tryz.prog
  have HM := Lib.hid (SetIs.made w)
  have HB0 := Lib.hid (show Below w.heap.size w (w.alloc (.map #[] 0)) from (Below.refl _ _).alloc (Nat.le_refl _) _)
  have hsz : (w.alloc (.map #[] 0)).heap.size = w.heap.size + 1 := by simp
  go_enter Tryz.func56, Tryz.ntmps56
  go_wp2_with fail
  generalize w.alloc (.map #[] 0) = W at *
  have hcs : (strs hopN).toArray = #[.string ⟨#[67, 111, 110, 110, 101, 99, 116, 105, 111, 110]⟩, .string ⟨#[75, 101, 101, 112, 45, 65, 108, 105, 118, 101]⟩, .string ⟨#[80, 114, 111, 120, 121, 45, 67, 111, 110, 110, 101, 99, 116, 105, 111, 110]⟩, .string ⟨#[84, 69]⟩, .string ⟨#[84, 114, 97, 105, 108, 101, 114]⟩, .string ⟨#[84, 114, 97, 110, 115, 102, 101, 114, 45, 69, 110, 99, 111, 100, 105, 110, 103]⟩, .string ⟨#[85, 112, 103, 114, 97, 100, 101]⟩] := rfl
  have hs0 := isStrs_lit W hopN #[.string ⟨#[67, 111, 110, 110, 101, 99, 116, 105, 111, 110]⟩, .string ⟨#[75, 101, 101, 112, 45, 65, 108, 105, 118, 101]⟩, .string ⟨#[80, 114, 111, 120, 121, 45, 67, 111, 110, 110, 101, 99, 116, 105, 111, 110]⟩, .string ⟨#[84, 69]⟩, .string ⟨#[84, 114, 97, 105, 108, 101, 114]⟩, .string ⟨#[84, 114, 97, 110, 115, 102, 101, 114, 45, 69, 110, 99, 111, 100, 105, 110, 103]⟩, .string ⟨#[85, 112, 103, 114, 97, 100, 101]⟩] 9 7 hcs.symm
  rw [hsz] at hs0
  have HS := Lib.hid hs0
  have hb1 : Below W.heap.size W (W.alloc (Obj.cells #[.string ⟨#[67, 111, 110, 110, 101, 99, 116, 105, 111, 110]⟩, .string ⟨#[75, 101, 101, 112, 45, 65, 108, 105, 118, 101]⟩, .string ⟨#[80, 114, 111, 120, 121, 45, 67, 111, 110, 110, 101, 99, 116, 105, 111, 110]⟩, .string ⟨#[84, 69]⟩, .string ⟨#[84, 114, 97, 105, 108, 101, 114]⟩, .string ⟨#[84, 114, 97, 110, 115, 102, 101, 114, 45, 69, 110, 99, 111, 100, 105, 110, 103]⟩, .string ⟨#[85, 112, 103, 114, 97, 100, 101]⟩] 9)) := (Below.refl _ _).alloc (Nat.le_refl _) _
  have HSet := Lib.hid (HM.out.later hb1)
  have HB1 := Lib.hid (HB0.out.trans (hb1.mono (by omega)))
  have hs2 : w.heap.size ≤ (W.alloc (Obj.cells #[.string ⟨#[67, 111, 110, 110, 101, 99, 116, 105, 111, 110]⟩, .string ⟨#[75, 101, 101, 112, 45, 65, 108, 105, 118, 101]⟩, .string ⟨#[80, 114, 111, 120, 121, 45, 67, 111, 110, 110, 101, 99, 116, 105, 111, 110]⟩, .string ⟨#[84, 69]⟩, .string ⟨#[84, 114, 97, 105, 108, 101, 114]⟩, .string ⟨#[84, 114, 97, 110, 115, 102, 101, 114, 45, 69, 110, 99, 111, 100, 105, 110, 103]⟩, .string ⟨#[85, 112, 103, 114, 97, 100, 101]⟩] 9)).heap.size := by simp; omega
  clear hb1 hs0 hcs
  generalize W.alloc (Obj.cells #[.string ⟨#[67, 111, 110, 110, 101, 99, 116, 105, 111, 110]⟩, .string ⟨#[75, 101, 101, 112, 45, 65, 108, 105, 118, 101]⟩, .string ⟨#[80, 114, 111, 120, 121, 45, 67, 111, 110, 110, 101, 99, 116, 105, 111, 110]⟩, .string ⟨#[84, 69]⟩, .string ⟨#[84, 114, 97, 105, 108, 101, 114]⟩, .string ⟨#[84, 114, 97, 110, 115, 102, 101, 114, 45, 69, 110, 99, 111, 100, 105, 110, 103]⟩, .string ⟨#[85, 112, 103, 114, 97, 100, 101]⟩] 9) = W2 at *
  have HA : Hid (Calls Tryz.prog 67 #[.map (some w.heap.size), .slice (some ⟨w.heap.size + 1, 0, none⟩) 7 7] W2 fun e w' => e = .returned (.tuple #[]) ∧ SetIs w' w.heap.size ([] ++ hopN.map lowL) ∧ W2.grownBy w' (some w.heap.size)) :=
    add_any w.heap.size [] hopN _ _ HSet.out HS.out (by intro e; injection e with e; exact absurd e (Nat.succ_ne_self _)) (by decide) (by decide) (by decide)
  refine HA.out.mono ?_
  rintro e w3 ⟨rfl, h1, h2⟩
  have H1 : Hid (SetIs w3 w.heap.size hopL) := h1
  have H2 := Lib.hid (HB1.out.trans (below_of_set h2 (Nat.le_refl _) hs2))
  clear h1 h2
  go_wp2_with fail
  go_ret
  exact ⟨rfl, H1.out, H2.out⟩

set_option maxHeartbeats 1000000 in
theorem hop_any (name : Bs) (w : World) (hn : name.length ≤ 1099511627776) :
    Calls Tryz.prog 13 #[.string (mkS name)] w fun e w' => e = .returned (.bool (isHop name)) ∧ Below w.heap.size w w' := by
  have HA := Lib.hid (always_any w)
  have hd : isHop name = decide (lowL name ∈ hopL) := rfl
  have HD := Lib.hid hd
  clear hd
  go_enter Tryz.func13, Tryz.ntmps13
  go_wp2_with fail
  refine HA.out.mono ?_
  rintro e w1 ⟨rfl, h1, hb⟩
  have HH := Lib.hid (has_any w.heap.size hopL name w1 h1 hn)
  have HB := Lib.hid hb
  have hsz := hb.size
  clear h1 hb
  go_wp2_with fail
  refine HH.out.mono ?_
  rintro e w2 ⟨rfl, hb⟩
  have HB2 := Lib.hid (HB.out.trans (hb.mono hsz))
  clear hb
  go_wp2_with fail
  go_ret
  exact ⟨by rw [HD.out]; rfl, HB2.out⟩
end Tk
end Go.Proofs.YtdlbmfgajgefdaaGreatDoor
namespace Go.Proofs.YtdlbmfgajgefdaaGreatDoor
open Go.RowKit
namespace Tk

/-- the function value: is the field's name in the set? -/
def setV (g : Nat) : Value := .func (.func 94) #[] #[.pointer (some ⟨g, 0, none⟩)]
/-- the box that it holds: a set -/
def HasM (w : World) (g b : Nat) (S : List Bs) : Prop := w.cell? ⟨g, 0, none⟩ = some (.map (some b)) ∧ SetIs w b S
theorem HasM.later {w w' : World} {g b : Nat} {S : List Bs} (h : HasM w g b S) (hb : Below w.heap.size w w') : HasM w' g b S := ⟨(hb.cell (p := ⟨g, 0, none⟩) (cell_lt (p := ⟨g, 0, none⟩) h.1)).trans h.1, h.2.later hb⟩

set_option maxHeartbeats 2000000 in
set_option maxRecDepth 100000 in
theorem without1_any (g b : Nat) (S : List Bs) (n x : Bs) (w : World) (hc : HasM w g b S) (hn : n.length ≤ 1099511627776) :
    Calls Tryz.prog 94 #[.agg #[.string (mkS n), .string (mkS x)], .pointer (some ⟨g, 0, none⟩)] w fun e w' => e = .returned (.bool (inS S (n, x))) ∧ Below w.heap.size w w' := by
  have hb0 : Below w.heap.size w (w.alloc (Obj.cells #[.string (mkS n), .string (mkS x)] 32)) := (Below.refl _ _).alloc (Nat.le_refl _) _
  have hc1 := hc.later hb0
  have HH := Lib.hid (has_any b S n _ hc1.2 hn)
  have hc0 := hc1.1
  have hv : inS S (n, x) = decide (lowL n ∈ S) := rfl
  have HV := Lib.hid hv
  have HB0 := Lib.hid hb0
  have hsz : w.heap.size ≤ (w.alloc (Obj.cells #[.string (mkS n), .string (mkS x)] 32)).heap.size := by simp
  have HF0 := Lib.hid (Two.new w 32 (.string (mkS n)) (.string (mkS x)))
  have hq0 := HF0.out.c0
  clear hv hb0 hc1 hc
  go_enter Tryz.func94, Tryz.ntmps94
  go_wp2_with fail
  generalize w.alloc (Obj.cells #[.string (mkS n), .string (mkS x)] 32) = W at *
  refine HH.out.mono ?_
  rintro e w' ⟨rfl, hb⟩
  have HB1 := Lib.hid (HB0.out.trans (hb.mono hsz))
  clear hb
  go_wp2_with fail
  go_ret
  exact ⟨by rw [HV.out]; rfl, HB1.out⟩

/-- where the first field of this name is, or -1 -/
def idxS (S : List Bs) (l : List (Bs × Bs)) : Int := if l.findIdx (inS S) < l.length then (l.findIdx (inS S) : Int) else -1
theorem idxS_hit (S : List Bs) (l : List (Bs × Bs)) (i : Nat) (hi : i < l.length) (h1 : ∀ f ∈ l.take i, inS S f = false) (h2 : inS S (l.getD i ([], [])) = true) : l.findIdx (inS S) = i := by
  rw [List.findIdx_eq hi]
  refine ⟨by simpa [List.getD, hi] using h2, fun j hj => ?_⟩
  refine h1 _ ?_
  rw [List.mem_take_iff_getElem]
  exact ⟨j, by omega, rfl⟩
theorem idxS_no (S : List Bs) (l : List (Bs × Bs)) (h1 : ∀ f ∈ l, inS S f = false) : l.findIdx (inS S) = l.length := by
  rw [List.findIdx_eq_length]; exact h1

set_option maxHeartbeats 4000000 in
set_option maxRecDepth 100000 in
theorem indexS_any (v : Value) (g k0 : Nat) (S : List Bs) (l : List (Bs × Bs)) (w : World) (hs : IsFlds w v l) (hg : HasM w g k0 S) (hz : ∀ f ∈ l, f.1.length ≤ 1099511627776 ∧ f.2.length ≤ 1099511627776) (hl : l.length ≤ 1048576) :
    Calls Tryz.prog 99 #[v, setV g] w fun e w' => e = .returned (.int .i64 (idxS S l)) ∧ Below w.heap.size w w' := by
  have HS := Lib.hid hs
  have HZ := Lib.hid hz
  have HG := Lib.hid hg
  obtain ⟨a, cap, rfl⟩ : ∃ a cap, v = .slice a l.length cap := by obtain ⟨a, c, h, -⟩ := hs; exact ⟨a, c, h⟩
  clear hs hz hg
  unfold setV
  go_enter Tryz.func99, Tryz.ntmps99
  go_wp2_with fail
  go_loopw [5, 8] (fun _ vi wr => ∃ i : Nat, i ≤ l.length ∧ vi = .int .i64 i ∧ Hid (∀ f ∈ l.take i, inS S f = false) ∧ Hid (Below w.heap.size w wr)) (fun _ vi _ => l.length - (RowKit.intOf vi).toNat)
  case atStart => exact ⟨0, Nat.zero_le _, rfl, fun f hf => by simp at hf, Below.refl _ _⟩
  case round =>
    obtain ⟨i, hi, rfl, HA, HB⟩ := hrel
    rename World => W
    by_cases hlt : i < l.length
    · obtain ⟨a', c', e', hcap, hc⟩ := isFlds_below HS.out HB.out
      injection e' with e1 _ e2
      subst e1 e2
      obtain ⟨b, o, rfl, hc0, hc1⟩ := hc i (l.getD i ([], [])) (by simp [List.getD, hlt])
      have hm := HZ.out (l.getD i ([], [])) (by simp [List.getD, hlt])
      have hhit := idxS_hit S l i hlt HA.out
      have htk : l.take (i + 1) = l.take i ++ [l.getD i ([], [])] := by
        rw [List.take_succ_eq_append_getElem hlt]; simp [List.getD, hlt]
      have HTK := Lib.hid htk
      have HHit := Lib.hid hhit
      clear hc htk hhit
      generalize l.getD i ([], []) = f at *
      obtain ⟨n, x⟩ := f
      simp only at hm hc0 hc1
      have HC := without1_any g k0 S n x W (HG.out.later HB.out) hm.1
      have g0 : (0 : Int) ≤ (i : Int) := by omega
      have g1 : (i : Int) < (l.length : Int) := by omega
      cases hk : inS S (n, x)
      · rw [hk] at HC
        have HA2 : Hid (∀ f ∈ l.take (i + 1), inS S f = false) := by
          intro f hf
          rw [HTK.out, List.mem_append, List.mem_singleton] at hf
          rcases hf with hf | rfl
          · exact HA.out f hf
          · exact hk
        have HC2 := Lib.hid HC
        clear HC hk
        go_wp2_with fail
        refine HC2.out.mono ?_
        rintro e w' ⟨rfl, hb⟩
        have HB2 := Lib.hid (HB.out.trans (hb.mono HB.out.size))
        clear hb
        go_wp2_with fail
        exact ⟨⟨i + 1, hlt, by go_num, HA2, HB2⟩, by simp [RowKit.intOf]; omega⟩
      · rw [hk] at HC
        have hidx : idxS S l = (i : Int) := by unfold idxS; rw [HHit.out hk, if_pos hlt]
        have HX := Lib.hid hidx
        have HC2 := Lib.hid HC
        clear HC hk hidx
        go_wp2_with fail
        refine HC2.out.mono ?_
        rintro e w' ⟨rfl, hb⟩
        have HB2 := Lib.hid (HB.out.trans (hb.mono HB.out.size))
        clear hb
        go_wp2_with fail
        go_ret
        exact ⟨by rw [HX.out]; rfl, HB2.out⟩
    · have hil : l.take i = l := List.take_of_length_le (by omega)
      rw [hil] at HA
      have hidx : idxS S l = -1 := by unfold idxS; rw [idxS_no S l HA.out, if_neg (by omega)]
      have HX := Lib.hid hidx
      clear hidx hil
      go_wp2_with fail
      go_ret
      exact ⟨by rw [HX.out]; rfl, HB.out⟩
end Tk
end Go.Proofs.YtdlbmfgajgefdaaGreatDoor
namespace Go.Proofs.YtdlbmfgajgefdaaGreatDoor
open Go.RowKit
namespace Tk

theorem SetIs.setCell {w : World} {b : Nat} {S : List Bs} (h : SetIs w b S) {a : Addr} (ha : b ≠ a.block) (u : Value) : SetIs (w.setCell a u) b S := by
  obtain ⟨D, h1, h2⟩ := h
  exact ⟨D, h1.setCell ha u, h2⟩
/-- the first fields of a row of one's own -/
theorem own_prefix {w : World} {B gr cap n : Nat} {K R : List (Bs × Bs)} (h : w.ownsRow B 32 2 (.slice (some ⟨gr, 0, none⟩) n cap) n (fcells (K ++ R))) : w.ownsRow B 32 2 (.slice (some ⟨gr, 0, none⟩) K.length cap) K.length (fcells K) := by
  have hn : K.length ≤ n := by
    have := h.1
    rw [fcells_len, List.length_append] at this; omega
  refine ⟨fcells_len K, .inr ?_⟩
  rcases h.2 with ⟨hv, -⟩ | ⟨g, c, cur, hv, hb, hg, hnc, hcm, hcs, ht⟩
  · injection hv with e1; cases e1
  · simp only [Value.slice.injEq, Option.some.injEq, Addr.mk.injEq, and_true, true_and] at hv
    obtain ⟨rfl, rfl⟩ := hv
    refine ⟨gr, cap, cur, rfl, hb, hg, by omega, hcm, hcs, ?_⟩
    have e : cur.toList.take (K.length * 2) = (cur.toList.take (n * 2)).take (K.length * 2) := by rw [List.take_take, Nat.min_eq_left (by omega)]
    rw [e, ht, show fcells (K ++ R) = fcells K ++ fcells R by simp [fcells], List.take_left' (fcells_len K)]
theorem own_setCs {B gr cap n : Nat} {xs : List Value} {e : TypeId} {k : Nat} : ∀ {w : World}, w.ownsRow B e k (.slice (some ⟨gr, 0, none⟩) n cap) n xs → ∀ (vs : List Value) (o : Nat), xs.length ≤ o → (w.setCells gr o vs).ownsRow B e k (.slice (some ⟨gr, 0, none⟩) n cap) n xs
  | _, h, [], _, _ => h
  | w, h, v :: vs, o, ho => by
    have h1 := (h.stored o v).1
    rw [List.set_eq_of_length_le ho] at h1
    exact own_setCs h1 vs (o + 1) (by omega)

theorem findS_hit (S : List Bs) (l : List (Bs × Bs)) (h : l.findIdx (inS S) < l.length) : inS S (l.getD (l.findIdx (inS S)) ([], [])) = true := by
  have := List.findIdx_getElem (w := h)
  simpa [List.getD, h] using this
theorem findS_before (S : List Bs) (l : List (Bs × Bs)) : ∀ f ∈ l.take (l.findIdx (inS S)), inS S f = false := by
  intro f hf
  rw [List.mem_take_iff_getElem] at hf
  obtain ⟨j, hj, rfl⟩ := hf
  have := List.not_of_lt_findIdx (p := inS S) (xs := l) (i := j) (by omega)
  simpa using this
theorem findS_none (S : List Bs) (l : List (Bs × Bs)) (h : ¬ l.findIdx (inS S) < l.length) : ∀ f ∈ l, inS S f = false := by
  have : l.findIdx (inS S) = l.length := by
    have := List.findIdx_le_length (p := inS S) (xs := l); omega
  rwa [List.findIdx_eq_length] at this

/-- what DeleteFunc has done when it has gone through j fields and kept i -/
def HalfS (wr : World) (B gr cap : Nat) (S : List Bs) (l : List (Bs × Bs)) (i j : Nat) : Prop :=
  ∃ K R : List (Bs × Bs), K = wipe S (l.take j) ∧ K.length = i ∧ R.length = j - i ∧ wr.ownsRow B 32 2 (.slice (some ⟨gr, 0, none⟩) l.length cap) l.length (fcells (K ++ R ++ l.drop j))

def WipePost (B : Nat) (S : List Bs) (l : List (Bs × Bs)) (w : World) (e : Ending) (w' : World) : Prop :=
  ∃ v', e = .returned v' ∧ w'.ownsRow B 32 2 v' (wipe S l).length (fcells (wipe S l)) ∧ Below B w w'

set_option maxHeartbeats 8000000 in
set_option maxRecDepth 100000 in
theorem delw_any (v : Value) (l : List (Bs × Bs)) (S : List Bs) (g k0 B : Nat) (w : World) (ho : w.ownsRow B 32 2 v l.length (fcells l)) (hB : B ≤ w.heap.size) (hg : HasM w g k0 S) (hne : v.ownBlock ≠ some g) (hnk : v.ownBlock ≠ some k0)
    (hz : ∀ f ∈ l, f.1.length ≤ 1099511627776 ∧ f.2.length ≤ 1099511627776) (hl : l.length ≤ 1048576) :
    Calls Tryz.prog 92 #[v, setV g] w (WipePost B S l w) := by
  have HIx := indexS_any v g k0 S l w (isFlds_own ho) hg hz hl
  have HZ := Lib.hid hz
  have HO := Lib.hid ho
  have HG := Lib.hid hg
  by_cases hidx : l.findIdx (inS S) < l.length
  · obtain ⟨gr, cap, hgr, hcap, rfl⟩ : ∃ gr cap, B ≤ gr ∧ l.length ≤ cap ∧ v = .slice (some ⟨gr, 0, none⟩) l.length cap := by
      rcases ho.2 with ⟨hv, hn⟩ | ⟨gr, cap, cur, hv, hb, hg, hcap, -⟩
      · omega
      · exact ⟨gr, cap, hb, hcap, hv⟩
    have hgne : gr ≠ g := by intro e; subst e; exact hne rfl
    have hgnk : k0 ≠ gr := by intro e; subst e; exact hnk rfl
    have hix : idxS S l = (l.findIdx (inS S) : Int) := by unfold idxS; rw [if_pos hidx]
    rw [hix] at HIx
    have h1 := findS_hit S l hidx
    have h2 := findS_before S l
    clear hix ho hg hz hne hnk
    generalize l.findIdx (inS S) = i0 at *
    have htk : l.take (i0 + 1) = l.take i0 ++ [l.getD i0 ([], [])] := by
      rw [List.take_succ_eq_append_getElem hidx]; simp [List.getD, hidx]
    have hdr : l.drop i0 = l.getD i0 ([], []) :: l.drop (i0 + 1) := by rw [List.drop_eq_getElem_cons hidx]; simp [List.getD, hidx]
    have HH0 : Hid (∀ W, W.ownsRow B 32 2 (.slice (some ⟨gr, 0, none⟩) l.length cap) l.length (fcells l) → HalfS W B gr cap S l i0 (i0 + 1)) := by
      intro W hW
      refine ⟨l.take i0, [l.getD i0 ([], [])], ?_, by simp; omega, by simp, ?_⟩
      · rw [htk, wipe_snoc, h1, wipe_all S _ h2]; simp
      · rw [← htk, List.take_append_drop]; exact hW
    have HI2 := Lib.hid HIx
    have m1 : ¬ ((i0 : Int) = -1) := by omega
    have m2 : ((i0 : Int) == -1) = false := by simp [m1]
    clear HIx h1 h2 htk hdr
    unfold setV at HI2 ⊢
    go_enter Tryz.func92, Tryz.ntmps92
    go_wp2_with fail
    refine HI2.out.mono ?_
    rintro e w1 ⟨rfl, hb⟩
    have HB1 := Lib.hid (show Below B w w1 from hb.mono hB)
    have HG1 := Lib.hid (HG.out.later hb)
    have HO1 := Lib.hid (own_keep2f HO.out hb)
    clear hb
    go_wp2_with fail
    go_loopw [5, 6] (fun v5 v6 wr => ∃ i j : Nat, i < j ∧ j ≤ l.length ∧ v5 = .int .i64 i ∧ v6 = .int .i64 j ∧ Hid (HalfS wr B gr cap S l i j) ∧ Hid (Below B w wr) ∧ Hid (HasM wr g k0 S)) (fun _ v6 _ => l.length - (RowKit.intOf v6).toNat)
    case atStart => exact ⟨i0, i0 + 1, by omega, hidx, rfl, by go_num, HH0.out _ HO1.out, HB1, HG1⟩
    case round =>
      obtain ⟨i, j, hij, hj, rfl, rfl, HR, HB, HN⟩ := hrel
      rename World => W
      by_cases hlt : j < l.length
      · obtain ⟨K, R, hK, hKi, hRl, hoW⟩ := HR.out
        obtain ⟨z, R', rfl⟩ : ∃ z R', R = z :: R' := by
          cases R with
          | nil => simp at hRl; omega
          | cons z R' => exact ⟨z, R', rfl⟩
        have hdr : l.drop j = l.getD j ([], []) :: l.drop (j + 1) := by rw [List.drop_eq_getElem_cons hlt]; simp [List.getD, hlt]
        have htk : l.take (j + 1) = l.take j ++ [l.getD j ([], [])] := by
          rw [List.take_succ_eq_append_getElem hlt]; simp [List.getD, hlt]
        have hm := HZ.out (l.getD j ([], [])) (by simp [List.getD, hlt])
        rw [hdr] at hoW
        generalize l.getD j ([], []) = f at *
        generalize hD : l.drop (j + 1) = D at *
        obtain ⟨n, x⟩ := f
        simp only at hm
        have hat := fcells_mid (K ++ z :: R') (n, x) D
        have hKR : (K ++ z :: R').length = j := by rw [List.length_append, hRl]; omega
        rw [hKR] at hat
        have hc0 := hoW.cellAt (j * 2) (by omega)
        have hc1 := hoW.cellAt (j * 2 + 1) (by omega)
        rw [hat.1] at hc0
        rw [hat.2] at hc1
        have HC := fun W : World => fun h : HasM W g k0 S => without1_any g k0 S n x W h hm.1
        have HF0 := Lib.hid (Two.new W 32 (.string (mkS n)) (.string (mkS x)))
        have hb0 : Below W.heap.size W (W.alloc (Obj.cells #[.string (mkS n), .string (mkS x)] 32)) := (Below.refl _ _).alloc (Nat.le_refl _) _
        have HO2 := Lib.hid (own_keep2f hoW hb0)
        have HN2 := Lib.hid (HN.out.later hb0)
        have hBW : B ≤ W.heap.size := Nat.le_trans hB HB.out.size
        have HB2 := Lib.hid (HB.out.trans (hb0.mono hBW))
        have hq0 := HF0.out.c0
        have hq1 := HF0.out.c1
        have g0 : (0 : Int) ≤ (j : Int) := by omega
        have g1 : (j : Int) < (l.length : Int) := by omega
        have g2 : (0 : Int) ≤ (i : Int) := by omega
        have g3 : (i : Int) < (l.length : Int) := by omega
        have hs0 : B ≤ (W.alloc (Obj.cells #[.string (mkS n), .string (mkS x)] 32)).heap.size := by simp; omega
        have HTK := Lib.hid htk
        have HKK := Lib.hid hK
        have HKi := Lib.hid hKi
        have HRl := Lib.hid hRl
        have HD := Lib.hid hD
        clear hb0 hat hKR hoW htk hdr hK hRl hD
        cases hk : inS S (n, x)
        · rw [hk] at HC
          have hK2 : wipe S (l.take (j + 1)) = K ++ [(n, x)] := by rw [HTK.out, wipe_snoc, hk, ← HKK.out]; rfl
          have HK2 := Lib.hid hK2
          have HC2 := Lib.hid HC
          clear HC hk hK2
          go_wp2_with fail
          generalize W.alloc (Obj.cells #[.string (mkS n), .string (mkS x)] 32) = W4 at *
          generalize W.heap.size = gw at *
          refine (HC2.out _ HN2.out).mono ?_
          rintro e w5 ⟨rfl, hb⟩
          have ho5 := own_keep2f HO2.out hb
          have HB5 := Lib.hid (HB2.out.trans (hb.mono hs0))
          have HN5 := Lib.hid (HN2.out.later hb)
          have hF5 := HF0.out.later hb
          have q0 := hF5.c0
          have q1 := hF5.c1
          have k0 := ho5.cellAt (i * 2) (by omega)
          have k1 := ho5.cellAt (i * 2 + 1) (by omega)
          rw [show K ++ z :: R' ++ (n, x) :: D = K ++ z :: (R' ++ (n, x) :: D) by simp] at k0 k1 ho5
          have hmid := fcells_mid K z (R' ++ (n, x) :: D)
          rw [HKi.out] at hmid
          rw [hmid.1] at k0
          rw [hmid.2] at k1
          have f0 := ho5.frozenAt (i * 2)
          have f1 := ho5.frozenAt (i * 2 + 1)
          have HO5 := Lib.hid ho5
          have k2 : (w5.setCell ⟨gr, i * 2, none⟩ (.string (mkS n))).cell? ⟨gr, i * 2 + 1, none⟩ = some (.string (mkS z.2)) := by
            rw [World.cell?_setCell_other (w := w5) (a := ⟨gr, i * 2, none⟩) (b := ⟨gr, i * 2 + 1, none⟩) (h := by intro e; injection e with _ e2; omega)]; exact k1
          clear hb ho5 hmid hF5
          go_wp2_with fail
          have hst := own_put2 (a := K) HO5.out n x
          rw [HKi.out] at hst
          refine ⟨⟨i + 1, j + 1, by omega, hlt, by go_num, by go_num, ?_, ?_, ?_⟩, by simp [RowKit.intOf]; omega⟩
          · refine ⟨K ++ [(n, x)], R' ++ [(n, x)], HK2.out.symm, by rw [List.length_append, HKi.out]; rfl, ?_, ?_⟩
            · have := HRl.out
              simp at this ⊢; omega
            · rw [HD.out]
              simpa using hst
          · exact (HB5.out.setCell (p := ⟨gr, i * 2, none⟩) hgr _).setCell (p := ⟨gr, i * 2 + 1, none⟩) hgr _
          · refine ⟨?_, (HN5.out.2.setCell (a := ⟨gr, i * 2, none⟩) hgnk _).setCell (a := ⟨gr, i * 2 + 1, none⟩) hgnk _⟩
            rw [World.cell?_setCell_other (h := by intro e; injection e with e1 _; exact hgne e1), World.cell?_setCell_other (h := by intro e; injection e with e1 _; exact hgne e1)]
            exact HN5.out.1
        · rw [hk] at HC
          have hK2 : wipe S (l.take (j + 1)) = K := by rw [HTK.out, wipe_snoc, hk, ← HKK.out]; simp
          have HK2 := Lib.hid hK2
          have HC2 := Lib.hid HC
          clear HC hk hK2
          go_wp2_with fail
          generalize W.alloc (Obj.cells #[.string (mkS n), .string (mkS x)] 32) = W4 at *
          generalize W.heap.size = gw at *
          refine (HC2.out _ HN2.out).mono ?_
          rintro e w5 ⟨rfl, hb⟩
          have HO5 := Lib.hid (own_keep2f HO2.out hb)
          have HB5 := Lib.hid (HB2.out.trans (hb.mono hs0))
          have HN5 := Lib.hid (HN2.out.later hb)
          clear hb
          go_wp2_with fail
          refine ⟨⟨i, j + 1, by omega, hlt, rfl, by go_num, ?_, HB5, HN5⟩, by simp [RowKit.intOf]; omega⟩
          refine ⟨K, z :: R' ++ [(n, x)], HK2.out.symm, HKi.out, ?_, ?_⟩
          · have := HRl.out
            simp at this ⊢; omega
          · rw [HD.out]
            have := HO5.out
            simpa using this
      · obtain rfl : j = l.length := by omega
        obtain ⟨K, R, hK, hKi, hRl, hoW⟩ := HR.out
        rw [List.take_length] at hK
        have hcl : ∀ ty, (Builtin.clear_ #[22] ty #[.slice (some ⟨gr, i * 2, none⟩) (l.length - i) (cap - i)]).run Tryz.prog W = .ok (.tuple #[]) (W.setCells gr (i * 2) (zeros2 (l.length - i))) := fun ty =>
          run_clear2 W ty gr (i * 2) (l.length - i) (cap - i) (by omega) (fun t ht => by
            rw [hoW.cellAt (i * 2 + t) (by omega)]
            have : i * 2 + t < (fcells (K ++ R ++ l.drop l.length)).length := by rw [fcells_len]; simp; omega
            rw [List.getElem?_eq_getElem this]; rfl) (fun t _ => hoW.frozenAt _)
        have HOW := Lib.hid hoW
        have HK := Lib.hid hK
        have HKi := Lib.hid hKi
        have g2 : (0 : Int) ≤ (i : Int) := by omega
        have g3 : (i : Int) ≤ (l.length : Int) := by omega
        have g4 : (l.length : Int) ≤ (cap : Int) := by omega
        clear hoW hK hKi hRl
        go_wp2_with fail
        go_ret
        have hw := HOW.out
        refine ⟨_, rfl, ?_, below_setC hgr _ _ _ HB.out⟩
        rw [← HK.out]
        have hki := HKi.out
        subst hki
        rw [List.append_assoc] at hw
        exact own_setCs (own_prefix hw) _ _ (by rw [fcells_len]; exact Nat.le_refl _)
  · have hall := findS_none S l hidx
    have hix : idxS S l = -1 := by unfold idxS; rw [if_neg hidx]
    rw [hix] at HIx
    have HI2 := Lib.hid HIx
    have HA := Lib.hid (wipe_all S l hall)
    obtain ⟨a, cap, rfl⟩ : ∃ a cap, v = .slice a l.length cap := by obtain ⟨a, c, h, -⟩ := isFlds_own ho; exact ⟨a, c, h⟩
    clear hall hix HIx ho hg hz hidx
    unfold setV at HI2 ⊢
    go_enter Tryz.func92, Tryz.ntmps92
    go_wp2_with fail
    refine HI2.out.mono ?_
    rintro e w1 ⟨rfl, hb⟩
    have HB1 := Lib.hid (show Below B w w1 from hb.mono hB)
    have HF1 := Lib.hid (own_keep2f HO.out hb)
    clear hb
    go_wp2_with fail
    go_ret
    exact ⟨_, rfl, by rw [HA.out]; exact HF1.out, HB1.out⟩
end Tk
end Go.Proofs.YtdlbmfgajgefdaaGreatDoor
namespace Go.Proofs.YtdlbmfgajgefdaaGreatDoor
open Go.RowKit
namespace Tk

/-- what an operation's run must be: this value, and S behind it; a call: the same of its contract -/
def SureRun (P : Program) (S : World → Prop) (v : Value) : Result Next → Prop
  | .ok (.value u) w' => u = v ∧ S w'
  | .ok .skip w' => v = undef ∧ S w'
  | .ok (.enter f args) w' => Calls P f args w' fun e w'' => e = .returned v ∧ S w''
  | _ => False
/-- operation i; the flag of S says whether operation k (the one that turns S) has come up -/
def Sure (P : Program) (ops : Array Oper) (S : Bool → World → Prop) (k i : Nat) (o : Oper) (v : Value) (a : Act) : Prop :=
  (Region.wanted o (yielded ops a.tmps) = true ∧ ∀ b w, S b w → ((i == k) = true → b = false) → SureRun P (S (b || i == k)) v ((execOp a.eval o).run P w)) ∨
  (Region.wanted o (yielded ops a.tmps) = false ∧ v = undef ∧ (i == k) = false)

section
variable {P : Program} {ops : Array Oper} {Q : Exit → Act → World → Prop} {md : Region.Mode} {S : Bool → World → Prop} {k : Nat}

theorem SureRun.wp {T : World → Prop} {o : Oper} {v : Value} {a : Act} {w : World} {K : Act → World → Prop} (h : SureRun P T v ((execOp a.eval o).run P w)) (hK : ∀ w', T w' → K (a.put o.dst v) w') : o.wp P a w K Q := by
  unfold Oper.wp
  generalize (execOp a.eval o).run P w = r at *
  cases r with
  | halt x w' => exact h.elim
  | ok n w' =>
    cases n with
    | value u => obtain ⟨rfl, hs⟩ := h; exact hK _ hs
    | skip => obtain ⟨rfl, hs⟩ := h; exact hK _ hs
    | enter f args =>
      refine Calls.mono h fun e w'' he => ?_
      obtain ⟨rfl, hs⟩ := he
      exact hK _ hs
    | _ => exact h.elim
theorem Sure.wpOp {i : Nat} {o : Oper} {v : Value} {a : Act} {b : Bool} (hi : ops[i]? = some o) (hy : Sure P ops S k i o v a) {K : Act → World → Prop} {w : World} (hS : S b w) (hb : (i == k) = true → b = false)
    (h : ∀ w', S (b || i == k) w' → K (a.put o.dst v) w') : wpOp P ops Q i K a w := by
  unfold Go.wpOp
  simp only [hi]
  rcases hy with ⟨hw, hv⟩ | ⟨hw, rfl, hk⟩
  · simp only [hw, if_true]
    exact .inl ((hv b w hS hb).wp h)
  · simp only [hw, Bool.false_eq_true, if_false]
    exact h w (by rw [hk, Bool.or_false]; exact hS)
theorem Sure.of_same {i : Nat} {o : Oper} {v : Value} {a a' : Act} (hy : Sure P ops S k i o v a) (he : execOp a'.eval o = execOp a.eval o) (hw : Region.wanted o (yielded ops a'.tmps) = Region.wanted o (yielded ops a.tmps)) : Sure P ops S k i o v a' := by
  unfold Sure at *
  rw [he, hw]
  exact hy

/-- A walk in one order. -/
inductive Plan (P : Program) (md : Region.Mode) (ops : Array Oper) (Q : Exit → Act → World → Prop) (S : Bool → World → Prop) (k : Nat) : Nat → Array Bool → Act → Prop
  | fin {n : Nat} {listed : Array Bool} {a : Act} (hr : Region.ready md ops listed = []) (h : ∀ w, S (listed.getD k false) w → Q .normal a w) : Plan P md ops Q S k n listed a
  | step {n : Nat} {listed : Array Bool} {a : Act} {i : Nat} {oi : Oper} {v : Value} (hi : ops[i]? = some oi) (hr : i ∈ Region.ready md ops listed)
      (hfree : ∀ j oj, ops[j]? = some oj → j ≠ i → listed.getD j true = false → (∀ e ∈ oj.after, Region.binds md e = true → e.on ≠ i) → oi.apart ops oj = true)
      (hy : Sure P ops S k i oi v a) (h : Plan P md ops Q S k n (listed.setIfInBounds i true) (a.put oi.dst v)) : Plan P md ops Q S k (n + 1) listed a

theorem Plan.other (hsel : ∀ (j : Nat) (o : Oper) cs b, ops[j]? = some o → o.op ≠ .select cs b) {n : Nat} {listed : Array Bool} {a : Act} (h : Plan P md ops Q S k n listed a) :
    ∀ j, j ∈ Region.ready md ops listed → ∃ m oj v, n = m + 1 ∧ ops[j]? = some oj ∧ Sure P ops S k j oj v a ∧ Plan P md ops Q S k m (listed.setIfInBounds j true) (a.put oj.dst v) := by
  induction h with
  | fin hr h => intro j hj; rw [hr] at hj; cases hj
  | @step n listed a i oi v hi hr hfree hy h ih =>
    intro j hj
    by_cases hji : j = i
    · subst hji; exact ⟨n, oi, v, rfl, hi, hy, h⟩
    · obtain ⟨m, oj, u, rfl, hoj, hyj, hpl⟩ := ih j (ready_mono hj hji)
      obtain ⟨hjun, oj', hoj', hall⟩ := mem_ready.1 hj
      obtain rfl : oj' = oj := Option.some.inj (hoj'.symm.trans hoj)
      have hnot : ∀ e ∈ oj'.after, Region.binds md e = true → e.on ≠ i := fun e he hb heq => by
        have h1 := hall e he hb
        have h0 := (mem_ready.1 hr).1
        rw [heq] at h1
        rcases Nat.lt_or_ge i listed.size with h' | h'
        · simp [h'] at h0 h1; rw [h0] at h1; cases h1
        · simp [Array.getElem?_eq_none h'] at h1
      obtain ⟨a1, a2, a3⟩ := Oper.apart_spec (hfree j oj' hoj hji hjun hnot)
      have hfree' : ∀ k ok, ops[k]? = some ok → k ≠ i → (listed.setIfInBounds j true).getD k true = false →
          (∀ e ∈ ok.after, Region.binds md e = true → e.on ≠ i) → oi.apart ops ok = true := fun k ok hk hki hun hno => by
        refine hfree k ok hk hki ?_ hno
        by_cases hjk : j = k
        · subst hjk; exact hjun
        · rw [getD_set_ne true hjk] at hun; exact hun
      have hpl2 : Plan P md ops Q S k m ((listed.setIfInBounds j true).setIfInBounds i true) ((a.put oj'.dst u).put oi.dst v) := by
        rw [Array.setIfInBounds_comm _ _ hji, Act.put_comm a u v (fun d hd he => a2 d he hd)]
        exact hpl
      refine ⟨m + 1, oj', u, rfl, hoj, hyj.of_same (execOp_put oj' (fun cs b => hsel j oj' cs b hoj) a oi.dst v a1).symm (wanted_put oj' a oi.dst v a1).symm, ?_⟩
      exact Plan.step hi (ready_mono hr (Ne.symm hji)) hfree' (hy.of_same (execOp_put oi (fun cs b => hsel i oi cs b hi) a oj'.dst u a3) (wanted_put oi a oj'.dst u a3)) hpl2

theorem flag_set {listed : Array Bool} {j : Nat} (h : listed.getD j true = false) : (listed.setIfInBounds j true).getD k false = (listed.getD k false || j == k) := by
  by_cases e : j = k
  · subst e
    have hlt : j < listed.size := by
      rcases Nat.lt_or_ge j listed.size with h' | h'
      · exact h'
      · simp [Array.getElem?_eq_none h'] at h
    simp [hlt]
  · rw [getD_set_ne false e]; simp [e]
theorem plan_any (hsel : ∀ (j : Nat) (o : Oper) cs b, ops[j]? = some o → o.op ≠ .select cs b) : ∀ (n : Nat) (listed : Array Bool) (a : Act) (w : World), Plan P md ops Q S k n listed a → S (listed.getD k false) w → wpAny P md ops Q n listed a w := by
  intro n
  induction n with
  | zero =>
    intro listed a w h hS
    cases h with
    | fin hr h => exact ⟨hr, h w hS⟩
  | succ n ih =>
    intro listed a w h hS
    refine ⟨fun hr => ?_, fun j hj => ?_⟩
    · cases h with
      | fin _ h => exact h w hS
      | step _ hr2 => rw [hr] at hr2; cases hr2
    · obtain ⟨m, oj, v, hn, hoj, hy, hp⟩ := h.other hsel j hj
      obtain rfl : n = m := by omega
      have hun := (mem_ready.1 hj).1
      refine hy.wpOp hoj hS (fun e => ?_) fun w' hw' => ih _ _ w' hp (by rw [flag_set hun]; exact hw')
      have e2 : j = k := by simpa using e
      subst e2
      rcases Nat.lt_or_ge j listed.size with h' | h'
      · simpa [h'] using hun
      · simp [Array.getElem?_eq_none h']
end

section
variable {P : Program} {ops : Array Oper} {Q : Exit → Act → World → Prop} {S : Bool → World → Prop} {k : Nat}
/-- THE BEGINNING: S of the world behind the draw. -/
theorem wp_plan (S : Bool → World → Prop) (k : Nat) {id : Nat} {a : Act} {w : World} (hm : P.follows .mixedOrders = true) (hs : Region.noSelect ops = true) (hS : S false w.drew) (hk : (Array.replicate ops.size false).getD k false = false)
    (h : Plan P .any ops Q S k ops.size (Array.replicate ops.size false) a) : (Code.region id ops true).wp P Q a w :=
  wp_region_any hm (plan_any (Region.noSelect_spec hs) _ _ _ _ h (by rw [hk]; exact hS))
/-- NUMBER i NEXT. -/
theorem plan_take {n : Nat} {listed : Array Bool} {a : Act} {i : Nat} {oi : Oper} {v : Value} (hi : ops[i]? = some oi) (hf : Region.free .any ops listed i = true) (hr : (Region.ready .any ops listed).contains i = true)
    (hy : Sure P ops S k i oi v a) (h : Plan P .any ops Q S k n (listed.setIfInBounds i true) (a.put oi.dst v)) : Plan P .any ops Q S k (n + 1) listed a :=
  Plan.step hi (by simpa using hr) (Region.free_spec hi hf) hy h
/-- it yields a value and leaves the world -/
theorem plan_val {n : Nat} {listed : Array Bool} {a : Act} {i : Nat} {oi : Oper} {v : Value} (hi : ops[i]? = some oi) (hf : Region.free .any ops listed i = true) (hr : (Region.ready .any ops listed).contains i = true)
    (hk : (i == k) = false) (hw : Region.wanted oi (yielded ops a.tmps) = true) (hy : ∀ b w, S b w → (execOp a.eval oi).run P w = .ok (.value v) w)
    (h : Plan P .any ops Q S k n (listed.setIfInBounds i true) (a.put oi.dst v)) : Plan P .any ops Q S k (n + 1) listed a :=
  plan_take hi hf hr (.inl ⟨hw, fun b w hS _ => by rw [hy b w hS, hk, Bool.or_false]; exact ⟨rfl, hS⟩⟩) h
/-- it is guarded off -/
theorem plan_off {n : Nat} {listed : Array Bool} {a : Act} {i : Nat} {oi : Oper} (hi : ops[i]? = some oi) (hf : Region.free .any ops listed i = true) (hr : (Region.ready .any ops listed).contains i = true)
    (hk : (i == k) = false) (hw : Region.wanted oi (yielded ops a.tmps) = false) (h : Plan P .any ops Q S k n (listed.setIfInBounds i true) (a.put oi.dst undef)) : Plan P .any ops Q S k (n + 1) listed a :=
  plan_take hi hf hr (.inr ⟨hw, rfl, hk⟩) h
/-- a call -/
theorem plan_call {n : Nat} {listed : Array Bool} {a : Act} {i : Nat} {oi : Oper} {v : Value} (f : FuncId) (args : Array Value) (hi : ops[i]? = some oi) (hf : Region.free .any ops listed i = true) (hr : (Region.ready .any ops listed).contains i = true)
    (hk : (i == k) = false) (hw : Region.wanted oi (yielded ops a.tmps) = true) (he : ∀ w, (execOp a.eval oi).run P w = .ok (.enter f args) w) (hy : ∀ b w, S b w → Calls P f args w fun e w' => e = .returned v ∧ S b w')
    (h : Plan P .any ops Q S k n (listed.setIfInBounds i true) (a.put oi.dst v)) : Plan P .any ops Q S k (n + 1) listed a :=
  plan_take hi hf hr (.inl ⟨hw, fun b w hS _ => by rw [he w, hk, Bool.or_false]; exact hy b w hS⟩) h
/-- the store that turns S -/
theorem plan_store {n : Nat} {listed : Array Bool} {a : Act} {oi : Oper} (hi : ops[k]? = some oi) (hf : Region.free .any ops listed k = true) (hr : (Region.ready .any ops listed).contains k = true)
    (hw : Region.wanted oi (yielded ops a.tmps) = true) (hy : ∀ w, S false w → ∃ w', (execOp a.eval oi).run P w = .ok .skip w' ∧ S true w')
    (h : Plan P .any ops Q S k n (listed.setIfInBounds k true) (a.put oi.dst undef)) : Plan P .any ops Q S k (n + 1) listed a :=
  plan_take hi hf hr (.inl ⟨hw, fun b w hS hb => by
    obtain rfl := hb (by simp)
    obtain ⟨w', h1, h2⟩ := hy w hS
    rw [h1]
    refine ⟨rfl, ?_⟩
    simpa using h2⟩) h
end
end Tk
end Go.Proofs.YtdlbmfgajgefdaaGreatDoor
