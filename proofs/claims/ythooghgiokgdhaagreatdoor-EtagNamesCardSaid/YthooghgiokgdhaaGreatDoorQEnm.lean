/- EtagNames: the chapter's examples, as plain facts and as calls with concrete texts. -/
import Derived.Test.YthooghgiokgdhaaGreatDoorQR
import Derived.Test.YthooghgiokgdhaaGreatDoorQI
import Derived.Test.YthooghgiokgdhaaGreatDoorQP
import Derived.Test.YthooghgiokgdhaaGreatDoorQRefSa
namespace Go.Proofs.YthooghgiokgdhaaGreatDoor
open Go.RowKit
namespace Tk

def daE : Bs := [83, 117, 110, 44, 32, 48, 54, 32, 78, 111, 118, 32, 49, 57, 57, 52, 32, 48, 56, 58, 52, 57, 58, 51, 55, 32, 71, 77, 84]
def qaE : Bs := [34, 97, 34]
def cEx : Ck := ⟨false, [97], true, 784111777, true⟩
def dEx : Ck := ⟨false, [], false, 0, false⟩
def laEx : Ck := ⟨false, [], false, 784111777, true⟩
def ltEx : Ck := ⟨false, [], false, 784111778, true⟩
def lEx : List Tg := [(false, [97]), (true, [98])]
def fEx : List (Bs × Bs) := [([82, 97, 110, 103, 101], [120]), ([65], [49]), ([105, 102, 45, 110, 111, 110, 101, 45, 109, 97, 116, 99, 104], [42])]
def aEx : List (Bs × Bs) := [([65], [49]), (nINM, qaE), (nIMS, daE)]
deriving instance DecidableEq for Ck
theorem en_p1 : tgG [87, 47, 34, 120, 44, 121, 34] = (true, [120, 44, 121]) ∧ tgE [87, 47, 34, 120, 44, 121, 34] = 0 := by decide +kernel
theorem en_p2 : tgG [119, 47, 34, 120, 34] = (false, []) ∧ tgE [119, 47, 34, 120, 34] = 4 := by decide +kernel
theorem en_p3 : tgG [34, 97, 32, 98, 34] = (false, []) ∧ tgE [34, 97, 32, 98, 34] = 4 := by decide +kernel
theorem en_t1 : tgT (false, [34]) = [] ∧ tgTE (false, [34]) = 4 := by decide +kernel
theorem en_t2 : tgT (true, []) = [87, 47, 34, 34] ∧ tgTE (true, []) = 0 := by decide +kernel
theorem en_l1 : tagsL (prtL [qaE, [87, 47, 34, 98, 34]]) = lEx ∧ tagsS (prtL [qaE, [87, 47, 34, 98, 34]]) = false ∧ tagsE (prtL [qaE, [87, 47, 34, 98, 34]]) = 0 := by decide +kernel
theorem en_l2 : tagsL (prtL [[42]]) = [] ∧ tagsS (prtL [[42]]) = true ∧ tagsE (prtL [[42]]) = 0 := by decide +kernel
theorem en_l3 : tagsL (prtL [[42, 44, 32, 34, 97, 34]]) = [] ∧ tagsS (prtL [[42, 44, 32, 34, 97, 34]]) = false ∧ tagsE (prtL [[42, 44, 32, 34, 97, 34]]) = 4 := by decide +kernel
theorem en_l4 : tagsL (prtL []) = [] ∧ tagsS (prtL []) = false ∧ tagsE (prtL []) = 4 := by decide +kernel
theorem en_o1 : ofC [(nET, qaE), (nLM, daE)] 0 = cEx := by decide +kernel
theorem en_o2 : ofC [(nET, qaE), (nET, qaE), (nLM, [120])] 0 = dEx := by decide +kernel
theorem en_a : askL fEx cEx = aEx := by decide +kernel
theorem en_u1 : unB [(nIMS, daE)] laEx 0 = true := by decide +kernel
theorem en_u2 : unB [(nIMS, daE)] ltEx 0 = false := by decide +kernel
theorem en_u3 : unB [(nINM, [120]), (nIMS, daE)] laEx 0 = false := by decide +kernel
theorem en_u4 : unB [(nINM, [42])] ⟨false, [113], true, 0, false⟩ 0 = true := by decide +kernel
theorem en_u5 : unB [(nINM, [42])] laEx 0 = true := by decide +kernel
theorem en_u6 : unB [] cEx 0 = false := by decide +kernel
theorem en_s : stB (false, [97]) (false, [97]) = true ∧ stB (true, [98]) (true, [98]) = false ∧ wkB (true, [98]) (false, [98]) = true := by decide +kernel

theorem below_allocW (w : World) (o : Obj) : Below w.heap.size w (w.alloc o) := (Below.refl _ _).alloc (Nat.le_refl _) _
theorem enP (s : Bs) (k : Bool) (v : Bs) (n : Int) (h : tgG s = (k, v) ∧ tgE s = n) (hz : s.length ≤ 1000) (W : World) :
    Calls Tryz.prog 47 #[.string (mkS s)] W fun e w' => e = .returned (.tuple #[.agg #[.bool k, .string (mkS v)], .int .i64 n]) ∧ Below W.heap.size W w' := by
  have h1 := tparse_any (mkS s) W (by rw [size_mkS]; omega)
  unfold TgPost at h1
  rw [bs_mkS, h.1, h.2] at h1
  exact h1
theorem enT (t : Tg) (x : Bs) (n : Int) (h : tgT t = x ∧ tgTE t = n) (hz : t.2.length ≤ 1000) (W : World) :
    Calls Tryz.prog 48 #[.agg #[.bool t.1, .string (mkS t.2)]] W fun e w' => e = .returned (.tuple #[.string (mkS x), .int .i64 n]) ∧ Below W.heap.size W w' := by
  have h1 := ttext_any t W (by omega)
  rw [h.1, h.2] at h1
  exact h1
/-- Tags of a list that was just made -/
theorem enG (l : List Bs) (cs : Array Value) (L : List Tg) (st : Bool) (n : Int) (h : tagsL (prtL l) = L ∧ tagsS (prtL l) = st ∧ tagsE (prtL l) = n) (hc : cs = (strs l).toArray) (hz : Lib.lens l + l.length ≤ 1000) (W : World) :
    Calls Tryz.prog 49 #[.slice (some ⟨W.heap.size, 0, none⟩) l.length l.length] (W.alloc (.cells cs 9)) fun e w' => ∃ v', e = .returned (.tuple #[v', .bool st, .int .i64 n]) ∧ IsTgs w' v' L ∧ Below W.heap.size W w' := by
  have h1 := ttags_any _ l _ (isStrs_lit W l cs 9 l.length hc) (by omega)
  unfold TagsPost at h1
  rw [h.1, h.2.1, h.2.2] at h1
  exact h1.mono fun e w' ⟨v', k1, k2, k3⟩ => ⟨v', k1, isTgs_own k2, (below_allocW W _).trans (k3.mono (by simp))⟩
theorem enG0 (W : World) :
    Calls Tryz.prog 49 #[.slice none 0 0] W fun e w' => ∃ v', e = .returned (.tuple #[v', .bool false, .int .i64 4]) ∧ Below W.heap.size W w' := by
  have h1 := ttags_any (.slice none 0 0) [] W ⟨none, 0, rfl, fun j x hj => by simp at hj⟩ (by simp [Lib.lens])
  unfold TagsPost at h1
  rw [en_l4.2.1, en_l4.2.2] at h1
  exact h1.mono fun e w' ⟨v', k1, _, k3⟩ => ⟨v', k1, k3⟩
theorem isFlds_litN (W : World) (l : List (Bs × Bs)) (cs : Array Value) (h : cs.toList = fcells l) (hm : l.length ≤ 1000) (hs : cs.size = l.length * 2) : IsFlds (W.alloc (.cells cs 31)) (.slice (some ⟨W.heap.size, 0, none⟩) l.length l.length) l := by
  have h1 := World.ownsRow_lit (base := W.heap.size) (e := 31) (size := 2) W cs l.length (Nat.le_refl _) (by unfold maxLen; omega) hs
  rw [h] at h1
  exact isFlds_own h1
theorem enO (l : List (Bs × Bs)) (cs : Array Value) (C : Ck) (h : ofC l 0 = C) (hc : cs.toList = fcells l) (hm : l.length ≤ 1000) (hs : cs.size = l.length * 2) (hz : sumF l ≤ 1000) (W : World) (hN : NamH W) :
    Calls Tryz.prog 50 #[.slice (some ⟨W.heap.size, 0, none⟩) l.length l.length, .int .i64 0] (W.alloc (.cells cs 31)) fun e w' => e = .returned (.agg (ckA C)) ∧ Below W.heap.size W w' := by
  have h1 := eof_any _ l 0 _ (hN.later (below_allocW W _)) (isFlds_litN W l cs hc hm hs) (by omega) (by omega)
  rw [h] at h1
  exact h1.mono fun e w' ⟨k1, k3⟩ => ⟨k1, (below_allocW W _).trans (k3.mono (by simp))⟩
theorem enU (l : List (Bs × Bs)) (cs : Array Value) (c : Ck) (b : Bool) (h : unB l c 0 = b) (hc : cs.toList = fcells l) (hm : l.length ≤ 1000) (hs : cs.size = l.length * 2) (hz : sumF l ≤ 1000) (W : World) (hN : NamH W) :
    Calls Tryz.prog 53 #[.slice (some ⟨W.heap.size, 0, none⟩) l.length l.length, .agg (ckA c), .int .i64 0] (W.alloc (.cells cs 31)) fun e w' => e = .returned (.bool b) ∧ Below W.heap.size W w' := by
  have h1 := unch_any _ l c 0 _ (hN.later (below_allocW W _)) (isFlds_litN W l cs hc hm hs) (by omega) (by omega)
  rw [h] at h1
  exact h1.mono fun e w' ⟨k1, k3⟩ => ⟨k1, (below_allocW W _).trans (k3.mono (by simp))⟩
theorem enA (v : Value) (W : World) (hN : NamH W) (hs : IsFlds W v fEx) (hnl : ∀ n c, v = .slice none n c → c = 0) :
    Calls Tryz.prog 52 #[v, .agg (ckA cEx)] W fun e w' => ∃ v', e = .returned v' ∧ IsFlds w' v' aEx ∧ Below W.heap.size W w' := by
  have h1 := eask_any v fEx cEx W hN hs hnl (by decide) (by decide) (by decide) (by decide)
  unfold AskPost at h1
  rw [en_a] at h1
  exact h1.mono fun e w' ⟨v', k1, k2, k3⟩ => ⟨v', k1, isFlds_own k2, k3⟩
/-- the two tags of the list, cell by cell -/
structure T4 (W : World) (g : Nat) : Prop where
  c0 : W.cell? ⟨g, 0, none⟩ = some (.bool false)
  c1 : W.cell? ⟨g, 1, none⟩ = some (.string ⟨#[97]⟩)
  c2 : W.cell? ⟨g, 2, none⟩ = some (.bool true)
  c3 : W.cell? ⟨g, 3, none⟩ = some (.string ⟨#[98]⟩)
theorem cell_laterN {W W' : World} {p : Addr} {v : Value} (h : W.cell? p = some v) (hb : Below W.heap.size W W') : W'.cell? p = some v := (hb.cell (p := p) (cell_lt (p := p) h)).trans h
theorem T4.later {W W' : World} {g : Nat} (h : T4 W g) (hb : Below W.heap.size W W') : T4 W' g := ⟨cell_laterN h.c0 hb, cell_laterN h.c1 hb, cell_laterN h.c2 hb, cell_laterN h.c3 hb⟩
theorem enG1 (W : World) :
    Calls Tryz.prog 49 #[.slice (some ⟨W.heap.size, 0, none⟩) 2 2] (W.alloc (.cells #[.string ⟨#[34, 97, 34]⟩, .string ⟨#[87, 47, 34, 98, 34]⟩] 9)) fun e w' => ∃ g c, e = .returned (.tuple #[.slice (some ⟨g, 0, none⟩) 2 c, .bool false, .int .i64 0]) ∧ T4 w' g ∧ Below W.heap.size W w' := by
  have h1 := ttags_any _ [qaE, [87, 47, 34, 98, 34]] _ (isStrs_lit W [qaE, [87, 47, 34, 98, 34]] _ 9 2 rfl) (by decide)
  unfold TagsPost at h1
  rw [en_l1.1, en_l1.2.1, en_l1.2.2] at h1
  refine h1.mono fun e w' ⟨v', k1, k2, k3⟩ => ?_
  rcases k2.2 with ⟨_, hn⟩ | ⟨g, cap, cur, hv, _, _, _, _⟩
  · exact absurd hn (by decide)
  · have hc : ∀ (i : Nat) (v : Value), (tcells lEx)[i]? = some v → w'.cell? ⟨g, i, none⟩ = some v := fun i v hi => by
      have := k2.cells (g := g) (by rw [hv]; rfl) i v hi
      rw [Go.WideShapes.add_plain, Nat.zero_add] at this
      exact this
    exact ⟨g, cap, by rw [k1, hv]; rfl, ⟨hc 0 _ rfl, hc 1 _ rfl, hc 2 _ rfl, hc 3 _ rfl⟩, (below_allocW W _).trans (k3.mono (by simp))⟩
theorem en_same : sameFs aEx [([65], [49]), (nINM, qaE), (nIMS, daE)] = true := by decide +kernel
theorem en_len (f : Bs × Bs) (hf : f ∈ aEx ∨ f ∈ [([65], [49]), (nINM, qaE), (nIMS, daE)]) : f.1.length ≤ 1099511627776 := by
  have h2 : ∀ f ∈ aEx, f.1.length ≤ 1099511627776 := by decide
  rcases hf with h | h
  · exact h2 f h
  · exact h2 f h
end Tk
end Go.Proofs.YthooghgiokgdhaaGreatDoor
