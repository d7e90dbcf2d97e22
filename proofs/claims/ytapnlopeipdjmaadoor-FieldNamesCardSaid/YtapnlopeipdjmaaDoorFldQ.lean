/- field.Set. -/
import Derived.Test.YtapnlopeipdjmaaDoorFldP
import Derived.Test.YtapnlopeipdjmaaDoorFldN
import Derived.Deep.RegionHeld3
namespace Go.Proofs.YtapnlopeipdjmaaDoor
open Go.RowKit
namespace Tk

def setF (name x : Bs) (l : List (Bs × Bs)) : List (Bs × Bs) :=
  if l.findIdx (isN name) < l.length then l.take (l.findIdx (isN name)) ++ ((l.getD (l.findIdx (isN name)) ([], [])).1, x) :: delF name (l.drop (l.findIdx (isN name) + 1))
  else l ++ [(name, x)]

theorem isFlds_one2 {w : World} {b o c : Nat} {n x : Bs} (hc : 1 ≤ c) (h0 : w.cell? ⟨b, o, none⟩ = some (.string (mkS n))) (h1 : w.cell? ⟨b, o + 1, none⟩ = some (.string (mkS x))) : IsFlds w (.slice (some ⟨b, o, none⟩) 1 c) [(n, x)] := by
  refine ⟨_, c, rfl, hc, fun j f hj => ⟨b, o, rfl, ?_⟩⟩
  match j, hj with
  | 0, hj => simp at hj; subst hj; exact ⟨by simpa using h0, by simpa using h1⟩
theorem isFlds_lit (w : World) (n x : Bs) : IsFlds (w.alloc (Obj.cells #[.string (mkS n), .string (mkS x)] 24)) (.slice (some ⟨w.heap.size, 0, none⟩) 1 1) [(n, x)] := by
  have hN := Two.new w 24 (.string (mkS n)) (.string (mkS x))
  exact isFlds_one2 (b := w.heap.size) (o := 0) (c := 1) (n := n) (x := x) (Nat.le_refl _) hN.c0 hN.c1

set_option maxHeartbeats 4000000 in
set_option maxRecDepth 100000 in
theorem fset_no (v : Value) (l : List (Bs × Bs)) (name x : Bs) (w : World) (hs : IsFlds w v l) (hno : ¬ l.findIdx (isN name) < l.length)
    (hz : ∀ f ∈ l, f.1.length ≤ 1099511627776 ∧ f.2.length ≤ 1099511627776) (hn : name.length ≤ 1099511627776) (hx : x.length ≤ 1099511627776) (hl : l.length ≤ 1048576) :
    Calls Tryd.prog 39 #[v, .string (mkS name), .string (mkS x)] w (OwnPost (setF name x l) w) := by
  have HS := Lib.hid hs
  have HN := Lib.hid (named_any name w)
  have HI := Lib.hid (fun (W : World) (hb : Below w.heap.size w W) (g : Nat) (hg : HasN W g name) => index_any v g name l W (isFlds_below hs hb) hg hz hn hl)
  have HCp := Lib.hid (fun (W : World) (hb : Below w.heap.size w W) => copied_any v l W (isFlds_below hs hb) hz hl)
  have HOw := Lib.hid (fun W : World => fown_any name x W hn hx)
  have hix : idxF name l = -1 := by unfold idxF; rw [if_neg hno]
  have HSet : Hid (setF name x l = l ++ [(name, x)]) := by show setF name x l = _; unfold setF; rw [if_neg hno]
  rw [hix] at HI
  unfold OwnPost at HCp ⊢
  obtain ⟨a, cap, rfl⟩ : ∃ a cap, v = .slice a l.length cap := by obtain ⟨a, c, h, -⟩ := hs; exact ⟨a, c, h⟩
  clear hs hz hix hno
  go_enter Tryd.func39, Tryd.ntmps39
  go_wp2_with fail
  refine HN.out.mono ?_
  rintro e w1 ⟨rfl, hg, hb⟩
  have HI1 := Lib.hid (HI.out _ hb _ hg)
  have HB1 := Lib.hid hb
  clear hg hb
  go_wp2_with fail
  refine HI1.out.mono ?_
  rintro e w2 ⟨rfl, hb⟩
  have HB2 := Lib.hid (HB1.out.trans (hb.mono HB1.out.size))
  clear hb
  go_wp2_with fail
  refine (HCp.out _ HB2.out).mono ?_
  rintro e w3 ⟨v3, rfl, ho, hb⟩
  have HO3 := Lib.hid (own_base ho HB2.out.size)
  have HB3 := Lib.hid (HB2.out.trans (hb.mono HB2.out.size))
  clear ho hb
  go_wp2_with fail
  refine (HOw.out _).mono ?_
  rintro e w4 ⟨rfl, hb⟩
  have ho4 := own_keep2f HO3.out hb
  have HB4 := HB3.out.trans (hb.mono HB3.out.size)
  have hbal : Below w4.heap.size w4 (w4.alloc (Obj.cells #[.string (mkS name), .string (mkS x)] 24)) := (Below.refl _ _).alloc (Nat.le_refl _) _
  have HO5 := Lib.hid (own_keep2f ho4 hbal)
  have HF5 := Lib.hid (isFlds_lit w4 name x)
  have HB5 := Lib.hid (HB4.trans (hbal.mono HB4.size))
  have hs5 : w.heap.size ≤ (w4.alloc (Obj.cells #[.string (mkS name), .string (mkS x)] 24)).heap.size := HB5.out.size
  clear hb ho4 hbal HB4
  go_wp2_with (at_builtin; refine joinF_guarded (by rfl) _ _ rfl w.heap.size _ _ l [(name, x)] rfl rfl HO5.out HF5.out (fun _ _ h => by injection h with h1; cases h1) hs5 (by omega) (by simp) ?_)
  intro v6 w6 ho6 hg6
  have HB6 := Lib.hid (HB5.out.trans (below_of_grownF hg6 HO5.out hs5))
  have HO6 := Lib.hid ho6
  clear ho6 hg6
  go_wp2_with fail
  go_ret
  exact ⟨v6, rfl, by rw [HSet.out, List.length_append]; exact HO6.out, HB6.out⟩

/-- a part of a list of fields in memory -/
theorem isFlds_take {w : World} {b o c n : Nat} {l : List (Bs × Bs)} (h : IsFlds w (.slice (some ⟨b, o, none⟩) n c) l) (i : Nat) (hi : i ≤ l.length) : IsFlds w (.slice (some ⟨b, o, none⟩) i c) (l.take i) := by
  obtain ⟨a', c', e', hcap, hc⟩ := h
  injection e' with e1 e3 e2
  subst e1 e2 e3
  have hl : (l.take i).length = i := by simp; omega
  refine ⟨some ⟨b, o, none⟩, c, by rw [hl], by rw [hl]; omega, fun j f hj => ?_⟩
  have hji : j < i := by
    have := (List.getElem?_eq_some_iff.1 hj).1
    rw [hl] at this; exact this
  rw [List.getElem?_take, if_pos hji] at hj
  exact hc j f hj
theorem isFlds_drop {w : World} {b o c n : Nat} {l : List (Bs × Bs)} (h : IsFlds w (.slice (some ⟨b, o, none⟩) n c) l) (i : Nat) (hi : i ≤ l.length) : IsFlds w (.slice (some ⟨b, o + i * 2, none⟩) (l.length - i) (c - i)) (l.drop i) := by
  obtain ⟨a', c', e', hcap, hc⟩ := h
  injection e' with e1 e3 e2
  subst e1 e2 e3
  have hl : (l.drop i).length = l.length - i := by simp
  refine ⟨some ⟨b, o + i * 2, none⟩, c - i, by rw [hl], by rw [hl]; omega, fun j f hj => ?_⟩
  rw [List.getElem?_drop] at hj
  obtain ⟨b', o', e, h0, h1⟩ := hc (i + j) f hj
  injection e with e
  injection e with e1 e2
  subst e1 e2
  exact ⟨b, o + i * 2, rfl, by rw [← h0]; congr 2; omega, by rw [← h1]; congr 2; omega⟩

theorem step_joinF {ops : Array Oper} {w w0 : World} {o : Oper} {a : Act} {K : Act → World → Prop} {Q : Exit → Act → World → Prop} {E : Prop} (hgd : o.guard = none) (s x : Operand)
    (ho : o.op = .call { callee := .builtin .append, args := #[s, x], argTypes := #[26, 26] })
    (base : Nat) (v v2 : Value) (P R : List (Bs × Bs)) (hs : a.eval s = v) (hx : a.eval x = v2) (h1 : w.ownsRow base 24 2 v P.length (fcells P)) (h2 : IsFlds w v2 R) (hnl : ∀ n c, v2 = .slice none n c → c = 0)
    (hB : base ≤ w.heap.size) (hP : P.length ≤ 1048576) (hR : R.length ≤ 1048576) (p : Addr) (u : Value) (_hp : p.block < base) (hcell : ∀ W, Below base w0 W → W.cell? p = some u) (hb : Below base w0 w)
    (h : ∀ v' w', w'.ownsRow base 24 2 v' (P ++ R).length (fcells (P ++ R)) → Below base w0 w' → w'.cell? p = some u → K (a.put o.dst v') w') :
    if Region.wanted o (yielded ops a.tmps) = true then Oper.wp Tryd.prog o a w K Q else E := by
  have hw : Region.wanted o (yielded ops a.tmps) = true := by simp [Region.wanted, hgd]
  rw [if_pos hw]
  refine joinF_run w o a K Q s x ho base v v2 P R hs hx h1 h2 hnl hB hP hR fun v' w' h3 h4 => ?_
  have hb2 := hb.trans (below_of_grownF h4 h1 hB)
  exact h v' w' h3 hb2 (hcell _ hb2)

set_option maxHeartbeats 8000000 in
set_option maxRecDepth 100000 in
theorem fset_yes (v : Value) (l : List (Bs × Bs)) (name x : Bs) (w : World) (hs : IsFlds w v l) (hno : l.findIdx (isN name) < l.length)
    (hz : ∀ f ∈ l, f.1.length ≤ 1099511627776 ∧ f.2.length ≤ 1099511627776) (hn : name.length ≤ 1099511627776) (hx : x.length ≤ 1099511627776) (hl : l.length ≤ 1048576) :
    Calls Tryd.prog 39 #[v, .string (mkS name), .string (mkS x)] w (OwnPost (setF name x l) w) := by
  have HN := Lib.hid (named_any name w)
  have HI := Lib.hid (fun (W : World) (hb : Below w.heap.size w W) (g : Nat) (hg : HasN W g name) => index_any v g name l W (isFlds_below hs hb) hg hz hn hl)
  have hix : idxF name l = (l.findIdx (isN name) : Int) := by unfold idxF; rw [if_pos hno]
  rw [hix] at HI
  have HSet : Hid (setF name x l = l.take (l.findIdx (isN name)) ++ ((l.getD (l.findIdx (isN name)) ([], [])).1, x) :: delF name (l.drop (l.findIdx (isN name) + 1))) := by show setF name x l = _; unfold setF; rw [if_pos hno]
  generalize l.findIdx (isN name) = i at *
  have hs2 := hs
  obtain ⟨a, cap, rfl, hcap, hc⟩ := hs2
  obtain ⟨b, o, rfl, hc0, hc1⟩ := hc i (l.getD i ([], [])) (by simp [List.getD, hno])
  have hm := hz (l.getD i ([], [])) (by simp [List.getD, hno])
  have hlt : b < w.heap.size := cell_lt (p := ⟨b, o + i * 2, none⟩) hc0
  generalize l.getD i ([], []) = f at *
  obtain ⟨n, y⟩ := f
  simp only at hm hc0 hc1
  have HCp := Lib.hid (fun (W : World) (hb : Below w.heap.size w W) => copied_any _ (l.take i) W (isFlds_take (isFlds_below hs hb) i (by omega)) (fun f hf => hz f (List.mem_of_mem_take hf)) (by rw [List.length_take]; omega))
  have HDl := Lib.hid (fun (W : World) (A : Option Addr) (c' : Nat) (hf : IsFlds W (.slice A (l.length - (i + 1)) c') (l.drop (i + 1))) (hA : A ≠ none) => fdel_any _ (l.drop (i + 1)) name W hf (fun _ _ h => by injection h with h1; exact absurd h1 hA) (fun f hf => hz f (List.mem_of_mem_drop hf)) hn (by rw [List.length_drop]; omega))
  have HSd := Lib.hid (fun (W : World) (hb : Below w.heap.size w W) => isFlds_drop (isFlds_below hs hb) (i + 1) (by omega))
  have HOw := Lib.hid (fun W : World => fown_any n x W hm.1 hx)
  unfold OwnPost at HCp HDl ⊢
  have HCell : Hid (∀ W, Below w.heap.size w W → W.cell? ⟨b, o + i * 2, none⟩ = some (.string (mkS n))) := fun W h => (h.cell (p := ⟨b, o + i * 2, none⟩) hlt).trans hc0
  have CK : Hid (∀ W, Below w.heap.size w W → Calls Tryd.prog 73 #[.slice (some ⟨b, o, none⟩) i cap] W fun e w' => ∃ v', e = .returned v' ∧ Below w.heap.size w w' ∧ w'.cell? ⟨b, o + i * 2, none⟩ = some (.string (mkS n)) ∧ w'.ownsRow w.heap.size 24 2 v' (l.take i).length (fcells (l.take i))) := by
    intro W hb
    refine (HCp.out W hb).mono ?_
    rintro e w' ⟨v', rfl, ho, hb'⟩
    have hB := hb.trans (hb'.mono hb.size)
    exact ⟨v', rfl, hB, HCell.out _ hB, own_base ho hb.size⟩
  have OK2 : Hid (∀ W v', Below w.heap.size w W → W.ownsRow w.heap.size 24 2 v' (l.take i).length (fcells (l.take i)) → Calls Tryd.prog 74 #[.string (mkS n), .string (mkS x)] W fun e w' => e = .returned (.agg #[.string (mkS n), .string (mkS x)]) ∧ w'.cell? ⟨b, o + i * 2, none⟩ = some (.string (mkS n)) ∧
      Below w.heap.size w (w'.alloc (Obj.cells #[.string (mkS n), .string (mkS x)] 24)) ∧ (w'.alloc (Obj.cells #[.string (mkS n), .string (mkS x)] 24)).ownsRow w.heap.size 24 2 v' (l.take i).length (fcells (l.take i)) ∧
      IsFlds (w'.alloc (Obj.cells #[.string (mkS n), .string (mkS x)] 24)) (.slice (some ⟨w'.heap.size, 0, none⟩) 1 1) [(n, x)] ∧ w.heap.size ≤ (w'.alloc (Obj.cells #[.string (mkS n), .string (mkS x)] 24)).heap.size) := by
    intro W v' hb ho
    refine (HOw.out W).mono ?_
    rintro e w' ⟨rfl, hb'⟩
    have hB := hb.trans (hb'.mono hb.size)
    have hbal : Below w'.heap.size w' (w'.alloc (Obj.cells #[.string (mkS n), .string (mkS x)] 24)) := (Below.refl _ _).alloc (Nat.le_refl _) _
    have hB2 := hB.trans (hbal.mono hB.size)
    exact ⟨rfl, HCell.out _ hB, hB2, own_keep2f (own_keep2f ho hb') hbal, isFlds_lit w' n x, hB2.size⟩
  have hli : (l.take i).length ≤ 1048576 := by rw [List.length_take]; omega
  have g0 : (0 : Int) ≤ (i : Int) := by omega
  have g1 : (i : Int) < (l.length : Int) := by omega
  have g2 : (i : Int) ≤ (cap : Int) := by omega
  have g3 : (l.length : Int) ≤ (cap : Int) := by omega
  have g4 : ¬ (i : Int) < 0 := by omega
  clear hs hz hix hc hc0 hc1
  go_enter Tryd.func39, Tryd.ntmps39
  go_wp2_with fail
  refine HN.out.mono ?_
  rintro e w1 ⟨rfl, hg, hb⟩
  have HI1 := Lib.hid (HI.out _ hb _ hg)
  have HB1 := Lib.hid hb
  clear hg hb
  go_wp2_with fail
  refine HI1.out.mono ?_
  rintro e w2 ⟨rfl, hb⟩
  have hB2 := HB1.out.trans (hb.mono HB1.out.size)
  have hc2 := HCell.out w2 hB2
  clear hb
  go_wp2_with fail
  have hB2d : Below w.heap.size w w2.drew := hB2.drew
  have hc2d : w2.drew.cell? ⟨b, o + i * 2, none⟩ = some (.string (mkS n)) := hc2
  go_region_held3 (fun w' => w'.cell? ⟨b, o + i * 2, none⟩ = some (.string (mkS n))) (first | go_keep | exact (by assumption)) (first | (go_at_call 73; refine (CK.out _ (by assumption)).mono ?_; rintro e w' ⟨v', rfl, hb', hc', ho'⟩) | (go_at_call 74; refine (OK2.out _ _ (by assumption) (by assumption)).mono ?_; rintro e w' ⟨rfl, hc', hb', ho', hf', hs'⟩) | (refine step_joinF (by rfl) _ _ (by rfl) w.heap.size _ _ (l.take i) [(n, x)] (by rfl) (by rfl) (by assumption) (by assumption) (fun _ _ h => by injection h with h1; cases h1) (by assumption) hli (by simp) ⟨b, o + i * 2, none⟩ _ hlt HCell.out (by assumption) ?_; intro v6 w6 ho6 hb6 hc6))
  go_ways
  have HB6 := Lib.hid hb6
  have HO6 := Lib.hid ho6
  clear hB2 hc2 hB2d hc2d hc' hb' hs' hb6 ho6
  have hw1 : IntKind.i64.wrap ((i : Int) + 1) = (i : Int) + 1 := IntWalk.i64_in _ (by omega)
  have hw2 : (0 : Int) ≤ (i : Int) + 1 := by omega
  have hw3 : ((i : Int) + 1).toNat = i + 1 := by omega
  have hw4 : (i : Int) + 1 ≤ (l.length : Int) := by omega
  have hd7 : (delF name (l.drop (i + 1))).length ≤ 1048576 := by
    have := delF_len name (l.drop (i + 1))
    rw [List.length_drop] at this; omega
  have hp7 : (l.take i ++ [(n, x)]).length ≤ 1048576 := by
    rw [List.length_append, List.length_take]; simp; omega
  by_cases hce : cap - (i + 1) = 0
  all_goals
    have HF : Hid (IsFlds w6 (.slice (some (if cap - (i + 1) = 0 then ⟨b, o, none⟩ else ⟨b, o + (i + 1) * 2, none⟩)) (l.length - (i + 1)) (cap - (i + 1))) (l.drop (i + 1))) := by
      show IsFlds _ _ _
      first
        | (rw [if_neg hce]; exact HSd.out _ HB6.out)
        | (rw [if_pos hce, hce, show l.length - (i + 1) = 0 by omega, List.drop_eq_nil_of_le (by omega)]
           exact ⟨_, 0, rfl, Nat.le_refl _, fun j f hj => by simp at hj⟩)
    first | rw [if_neg hce] at HF | rw [if_pos hce, hce] at HF
    have HD7 := Lib.hid (HDl.out _ _ _ HF.out (by simp))
    clear HF
    go_wp2_with fail
    refine HD7.out.mono ?_
    rintro e w7 ⟨v7, rfl, ho7, hb7⟩
    have HO7 := Lib.hid (own_keep2f HO6.out hb7)
    have HF7 := Lib.hid (isFlds_own ho7)
    have HNC := Lib.hid (isFlds_nil_cap ho7)
    have HB7 := Lib.hid (HB6.out.trans (hb7.mono HB6.out.size))
    have hs7 := HB7.out.size
    clear ho7 hb7
    go_wp2_with (at_builtin; refine joinF_guarded (by rfl) _ _ rfl w.heap.size _ _ (l.take i ++ [(n, x)]) (delF name (l.drop (i + 1))) rfl rfl HO7.out HF7.out HNC.out hs7 hp7 hd7 ?_)
    intro v8 w8 ho8 hg8
    have HB8 := Lib.hid (HB7.out.trans (below_of_grownF hg8 HO7.out hs7))
    have HO8 := Lib.hid ho8
    clear ho8 hg8
    go_wp2_with fail
    go_ret
    refine ⟨v8, rfl, ?_, HB8.out⟩
    rw [HSet.out, show (l.take i ++ (n, x) :: delF name (l.drop (i + 1))).length = min i l.length + ((delF name (l.drop (i + 1))).length + 1) by simp]
    exact HO8.out

theorem fset_any (v : Value) (l : List (Bs × Bs)) (name x : Bs) (w : World) (hs : IsFlds w v l)
    (hz : ∀ f ∈ l, f.1.length ≤ 1099511627776 ∧ f.2.length ≤ 1099511627776) (hn : name.length ≤ 1099511627776) (hx : x.length ≤ 1099511627776) (hl : l.length ≤ 1048575) :
    Calls Tryd.prog 39 #[v, .string (mkS name), .string (mkS x)] w (OwnPost (setF name x l) w) := by
  by_cases h : l.findIdx (isN name) < l.length
  · exact fset_yes v l name x w hs h hz hn hx (by omega)
  · exact fset_no v l name x w hs h hz hn hx (by omega)
end Tk
end Go.Proofs.YtapnlopeipdjmaaDoor
