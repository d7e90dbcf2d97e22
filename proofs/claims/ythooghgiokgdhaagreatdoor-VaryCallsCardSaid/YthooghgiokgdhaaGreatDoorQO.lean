/- HopF HopG TenH RefE RefSt RefH7 VdC, put together. -/
import Derived.Test.YthooghgiokgdhaaGreatDoorQN
import Derived.Test.YthooghgiokgdhaaGreatDoorQH
import Derived.Lib.AppendIntMem
import Derived.Lib.ItoaMem
import Derived.Lib.LaidTab
import Derived.ProofKit
import Derived.Test.YthooghgiokgdhaaGreatDoorQM
import Derived.Test.YthooghgiokgdhaaGreatDoorQJ
import Derived.Test.YthooghgiokgdhaaGreatDoorQK
import Derived.Test.YthooghgiokgdhaaGreatDoorQL
namespace Go.Proofs.YthooghgiokgdhaaGreatDoor
open Go.RowKit
namespace Tk

def lightM (M T R B : ByteArray) (l tl : List (Bs × Bs)) : Bool := decide (M.size ≤ 40) && (decide (T.size ≤ 200) && (decide (R.size ≤ 100) && (decide (B.size ≤ 400) && (lightU l && lightT tl))))
theorem lightM_parts (M T R B : ByteArray) (l tl : List (Bs × Bs)) (h : lightM M T R B l tl = true) : (M.size ≤ 40 ∧ T.size ≤ 200 ∧ R.size ≤ 100 ∧ B.size ≤ 400) ∧ (l.length ≤ 20 ∧ sumF l ≤ 680) ∧ tl.length ≤ 10 ∧ sumF tl ≤ 340 := by
  unfold lightM at h
  simp only [Bool.and_eq_true, decide_eq_true_eq] at h
  obtain ⟨h1, h2, h3, h4, h5, h6⟩ := h
  exact ⟨⟨h1, h2, h3, h4⟩, lightU_parts l h5, lightT_parts tl h6⟩
/-- no more than a machine holds -/
def SizedF (l : List (Bs × Bs)) : Prop := (∀ f ∈ l, f.1.length ≤ 140737488351232 ∧ f.2.length ≤ 140737488351232) ∧ l.length ≤ 140737488351232

set_option maxHeartbeats 8000000 in
set_option maxRecDepth 100000 in
theorem lightMsg_any (M T : ByteArray) (s : Int) (R : ByteArray) (mi : Int) (vf : Value) (B : ByteArray) (vt : Value) (l tl : List (Bs × Bs)) (w : World) (hs : IsFlds w vf l) (ht : IsFlds w vt tl) (hz : SizedF l) (hzt : SizedF tl)
    (hM : M.size ≤ 140737488351232) (hT : T.size ≤ 140737488351232) (hR : R.size ≤ 140737488351232) (hB : B.size ≤ 140737488351232) :
    Calls Tryz.prog 72 #[.agg (msgC M T s R mi vf B vt)] w fun e w' => e = .returned (.bool (lightM M T R B l tl)) ∧ Below w.heap.size w w' := by
  obtain ⟨a, cap, rfl⟩ : ∃ a cap, vf = .slice a l.length cap := by obtain ⟨a, c, h, -⟩ := hs; exact ⟨a, c, h⟩
  obtain ⟨at2, capt, rfl⟩ : ∃ a cap, vt = .slice a tl.length cap := by obtain ⟨a, c, h, -⟩ := ht; exact ⟨a, c, h⟩
  have hX := Box.new w 24 (msgC M T s R mi (.slice a l.length cap) B (.slice at2 tl.length capt))
  have hB0 := below_alloc w (.cells (msgC M T s R mi (.slice a l.length cap) B (.slice at2 tl.length capt)) 24)
  have HL1 := Lib.hid (lightTwenty_any _ l _ (isFlds_below hs hB0) hz.1 hz.2)
  have HL2 := Lib.hid (fun n => lightTen_any _ tl _ (isFlds_below ht (below_some_draws hB0 n)) hzt.1 hzt.2)
  have HX := Lib.hid hX
  have HB0 := Lib.hid hB0
  have hv : lightM M T R B l tl = (decide (M.size ≤ 40) && (decide (T.size ≤ 200) && (decide (R.size ≤ 100) && (decide (B.size ≤ 400) && (lightU l && lightT tl))))) := rfl
  rw [hv]
  have c0 : (w.alloc (.cells (msgC M T s R mi (.slice a l.length cap) B (.slice at2 tl.length capt)) 24)).cell? ⟨w.heap.size, 0, none⟩ = some (.string M) := hX.cell 0 _ rfl
  have c1 : (w.alloc (.cells (msgC M T s R mi (.slice a l.length cap) B (.slice at2 tl.length capt)) 24)).cell? ⟨w.heap.size, 1, none⟩ = some (.string T) := hX.cell 1 _ rfl
  have c3 : (w.alloc (.cells (msgC M T s R mi (.slice a l.length cap) B (.slice at2 tl.length capt)) 24)).cell? ⟨w.heap.size, 3, none⟩ = some (.string R) := hX.cell 3 _ rfl
  have c6 : (w.alloc (.cells (msgC M T s R mi (.slice a l.length cap) B (.slice at2 tl.length capt)) 24)).cell? ⟨w.heap.size, 6, none⟩ = some (.string B) := hX.cell 6 _ rfl
  have c5 : (w.alloc (.cells (msgC M T s R mi (.slice a l.length cap) B (.slice at2 tl.length capt)) 24)).cell? ⟨w.heap.size, 5, none⟩ = some (.slice a l.length cap) := hX.cell 5 _ rfl
  have c7 : (w.alloc (.cells (msgC M T s R mi (.slice a l.length cap) B (.slice at2 tl.length capt)) 24)).cell? ⟨w.heap.size, 7, none⟩ = some (.slice at2 tl.length capt) := hX.cell 7 _ rfl
  clear hs ht hz hzt hX hB0 hv
  unfold msgC at *
  generalize lightU l = d5 at *
  generalize lightT tl = d6 at *
  by_cases h0 : M.size ≤ 40
  rotate_left
  · have m0 : ¬ ((M.size : Int) ≤ 40) := by omega
    rw [decide_eq_false h0]
    clear h0
    go_enter Tryz.func72, Tryz.ntmps72
    go_wp2_with fail
    go_ret
    exact ⟨rfl, HB0.out⟩
  have m0 : (M.size : Int) ≤ 40 := by omega
  by_cases h1 : T.size ≤ 200
  rotate_left
  · have m1 : ¬ ((T.size : Int) ≤ 200) := by omega
    rw [decide_eq_true h0, decide_eq_false h1]
    clear h0 h1
    go_enter Tryz.func72, Tryz.ntmps72
    go_wp2_with fail
    go_ret
    exact ⟨rfl, HB0.out⟩
  have m1 : (T.size : Int) ≤ 200 := by omega
  by_cases h2 : R.size ≤ 100
  rotate_left
  · have m2 : ¬ ((R.size : Int) ≤ 100) := by omega
    rw [decide_eq_true h0, decide_eq_true h1, decide_eq_false h2]
    clear h0 h1 h2
    go_enter Tryz.func72, Tryz.ntmps72
    go_wp2_with fail
    go_ret
    exact ⟨rfl, HB0.out⟩
  have m2 : (R.size : Int) ≤ 100 := by omega
  by_cases h3 : B.size ≤ 400
  rotate_left
  · have m3 : ¬ ((B.size : Int) ≤ 400) := by omega
    rw [decide_eq_true h0, decide_eq_true h1, decide_eq_true h2, decide_eq_false h3]
    clear h0 h1 h2 h3
    go_enter Tryz.func72, Tryz.ntmps72
    go_wp2_with fail
    go_ret
    exact ⟨rfl, HB0.out⟩
  have m3 : (B.size : Int) ≤ 400 := by omega
  rw [decide_eq_true h0, decide_eq_true h1, decide_eq_true h2, decide_eq_true h3]
  clear h0 h1 h2 h3
  cases d5
  · go_enter Tryz.func72, Tryz.ntmps72
    go_wp2_with fail
    refine HL1.out.mono ?_
    rintro e w1 ⟨rfl, n, rfl⟩
    go_wp2_with fail
    go_ret
    exact ⟨rfl, below_some_draws HB0.out n⟩
  · go_enter Tryz.func72, Tryz.ntmps72
    go_wp2_with fail
    refine HL1.out.mono ?_
    rintro e w1 ⟨rfl, n, rfl⟩
    go_wp2_with fail
    refine (HL2.out n).mono ?_
    rintro e w1 ⟨rfl, n2, rfl⟩
    go_wp2_with fail
    go_ret
    exact ⟨rfl, below_some_draws HB0.out (n + n2)⟩

end Tk
end Go.Proofs.YthooghgiokgdhaaGreatDoor
namespace Go.Proofs.YthooghgiokgdhaaGreatDoor
open Go.RowKit
namespace Tk

theorem itoaS_any (i : Nat) (w : World) (h : i < 100) : ItoaAt (i : Int) w := by
  have hI := Tryz.strconv_Itoa_small i h w
  unfold ItoaAt
  refine hI.mono ?_
  rintro e w' ⟨rfl, rfl⟩
  refine ⟨?_, Below.refl _ _⟩
  unfold digI
  rw [Lib.itoa_nonneg]; rfl
theorem fcells_lit3 (w : World) (a b c d e f : Bs) : IsFlds (w.alloc (Obj.cells #[.string (mkS a), .string (mkS b), .string (mkS c), .string (mkS d), .string (mkS e), .string (mkS f)] 31)) (.slice (some ⟨w.heap.size, 0, none⟩) 3 3) [(a, b), (c, d), (e, f)] := by
  refine ⟨_, 3, rfl, Nat.le_refl _, fun j t hj => ⟨w.heap.size, 0, rfl, ?_⟩⟩
  match j, hj with
  | 0, hj => cases hj; exact ⟨by rw [World.cell?_alloc_new]; rfl, by rw [World.cell?_alloc_new]; rfl⟩
  | 1, hj => cases hj; exact ⟨by rw [World.cell?_alloc_new]; rfl, by rw [World.cell?_alloc_new]; rfl⟩
  | 2, hj => cases hj; exact ⟨by rw [World.cell?_alloc_new]; rfl, by rw [World.cell?_alloc_new]; rfl⟩
theorem ex_strip : stripL [([67, 111, 110, 110, 101, 99, 116, 105, 111, 110], [120, 44, 32, 99, 108, 111, 115, 101]), ([88], [49]), ([89], [50])] = [([89], [50])] := by decide +kernel
theorem len_via0 (n : Int) (p : Bs) : (viaL [] n p).length = 1 := by unfold viaL; rw [set_len]; rfl

end Tk
end Go.Proofs.YthooghgiokgdhaaGreatDoor
namespace Go.Proofs.YthooghgiokgdhaaGreatDoor
open Go.RowKit Go.ChangeShapes Go.WideShapes
namespace Tk

structure TenH (w : World) : Prop where
  big : 2 < w.heap.size
  tab : Lib.TabIs Tryz.prog w "internal/strconv.uint64pow10" .u64 Lib.pow10Tab
theorem gTenH : Tryz.prog.globalNamed "internal/strconv.uint64pow10" = some 2 := by kernel_rfl
theorem TenH.later {w w' : World} (h : TenH w) (hb : Below w.heap.size w w') : TenH w' :=
  ⟨Nat.lt_of_lt_of_le h.big hb.size, var?_below hb gTenH h.big h.tab⟩
theorem itoaG_any (n : Int) (w : World) (hT : TenH w) (h0 : -9223372036854775808 ≤ n) (h1 : n ≤ 9223372036854775807) : ItoaAt n w :=
  (Tryz.strconv_Itoa n h0 h1 w hT.tab).mono fun _ _ ⟨h1, _, _, h2⟩ => ⟨h1, h2 ▸ Lib.below_grow _ _ (Nat.le_refl _) _ _⟩
theorem nDigits_le : ∀ (k u : Nat), u < 10 ^ (k + 1) → Lib.nDigits u ≤ k + 1
  | 0, u, h => by rw [Lib.nDigits_small (by omega)]; omega
  | k + 1, u, h => by
    by_cases hu : u < 10
    · rw [Lib.nDigits_small hu]; omega
    · rw [Lib.nDigits_big hu]
      have := nDigits_le k (u / 10) (by rw [Nat.pow_succ] at h; omega)
      omega
theorem digI_len (n : Int) (h0 : -9223372036854775808 ≤ n) (h1 : n ≤ 9223372036854775807) : (digI n).length ≤ 100 := by
  unfold digI
  by_cases h : n < 0
  · obtain ⟨u, rfl⟩ : ∃ u : Nat, n = -(u : Int) := ⟨n.natAbs, by omega⟩
    rw [Lib.itoa_neg u (by omega), List.length_cons, Lib.decDigits_length]
    have := nDigits_le 18 u (by omega)
    omega
  · obtain ⟨u, rfl⟩ : ∃ u : Nat, n = (u : Int) := ⟨n.toNat, by omega⟩
    rw [Lib.itoa_nonneg, Lib.decDigits_length]
    have := nDigits_le 18 u (by omega)
    omega

/-- one variable off the list -/
theorem laid_atH {P : Program} {W : World} : ∀ {l : List (String × DataW Unit)} {ps : List MemPlace}, DataW.LaidVars P W l ps → ∀ (n : String) (d : DataW Unit), (n, d) ∈ l →
    ∃ g t cs fuel p, P.globalNamed n = some g ∧ (P.globals[g]?).map (·.type) = some t ∧ W.var? P n = some cs ∧ DataW.trod (fun _ => ()) P W 0 (fun _ => true) false fuel t cs.toList = some (d, p)
  | [], _, _, n, d, h => by simp at h
  | (m, e) :: r, ps, h, n, d, hm => by
    obtain ⟨g, t, cs, fuel, p, q, h1, h2, h3, h4, h5, -⟩ := h
    rcases List.mem_cons.1 hm with hm | hm
    · injection hm with a b
      subst a b
      exact ⟨g, t, cs, fuel, p, h1, h2, h3, h4⟩
    · exact laid_atH h5 n d hm

theorem gTenTypeH : (Tryz.prog.globals[2]?).map (·.type) = some 277 := by kernel_rfl
theorem cellsU64H : Tryz.prog.cellsOf 239 = 1 := by kernel_rfl
theorem cellsTensH : Tryz.prog.cellsOf 277 = 20 := by kernel_rfl

theorem tenH_of {l : List (String × DataW Unit)} {W : World} (h : laidMet Tryz.prog l W) (h2 : ("internal/strconv.uint64pow10", Lib.tabData .u64 Lib.pow10Tab) ∈ l) : TenH W := by
  obtain ⟨ps, hl, -⟩ := h
  obtain ⟨g', t', cs', fuel', p', b1, b2, b3, b4⟩ := laid_atH hl _ _ h2
  obtain rfl := Option.some.inj (gTenH.symm.trans b1)
  obtain rfl := Option.some.inj (gTenTypeH.symm.trans b2)
  have hcs := Lib.cells_of_tab Tryz.underlying277 Tryz.underlying239 cellsU64H cellsTensH b4
  refine ⟨?_, by unfold Lib.TabIs; rw [b3, ← hcs]⟩
  refine Nat.lt_of_not_le fun hle => ?_
  have h0 : W.cell? ⟨2, 0, none⟩ = cs'[0]? := World.var?_cell gTenH b3 0
  rw [← Array.getElem?_toList, hcs] at h0
  simp only [World.cell?, Array.getElem?_eq_none hle] at h0
  cases h0

end Tk
end Go.Proofs.YthooghgiokgdhaaGreatDoor
namespace Go.Proofs.YthooghgiokgdhaaGreatDoor
open Go.RowKit
namespace Tk

theorem delF_snocD (l : List (Bs × Bs)) (f : Bs × Bs) (name : Bs) : delF name (l ++ [f]) = delF name l ++ (if isN name f then [] else [f]) := by
  rw [delF_app]
  congr 1
  unfold delF
  cases h : isN name f <;> simp [h]
theorem keepD {w w' : World} {B : Nat} {v : Value} {n : Nat} {xs : List Value} {e : TypeId} {k : Nat} (h : w.ownsRow B e k v n xs) (hb : Below w.heap.size w w') : w'.ownsRow B e k v n xs :=
  World.ownsRow.kept h (row := none) ⟨hb.os, hb.tape, hb.output, hb.size, fun k hk _ => hb.block k hk⟩ (by cases h : v.ownBlock <;> simp)

set_option maxHeartbeats 8000000 in
set_option maxRecDepth 100000 in
theorem rdel_any (v : Value) (l : List (Bs × Bs)) (name : Bs) (w : World) (hs : IsFlds w v l) (hz : ∀ f ∈ l, f.1.length ≤ 1099511627776 ∧ f.2.length ≤ 1099511627776) (hn : name.length ≤ 1099511627776) (hl : l.length ≤ 1048576) :
    Calls Tryz.prog 80 #[v, .string (mkS name)] w (OwnPost (delF name l) w) := by
  have HS := Lib.hid hs
  have HZ := Lib.hid hz
  have HNZ := Lib.hid (size_mkS name)
  unfold OwnPost
  obtain ⟨a, cap, rfl⟩ : ∃ a cap, v = .slice a l.length cap := by obtain ⟨a, c, h, -⟩ := hs; exact ⟨a, c, h⟩
  clear hs hz
  go_enter Tryz.func80, Tryz.ntmps80
  go_wp2_with fail
  go_loopw [5, 6] (fun v5 vi wr => ∃ i : Nat, i ≤ l.length ∧ vi = .int .i64 i ∧ Hid (wr.ownsRow w.heap.size 31 2 v5 (delF name (l.take i)).length (fcells (delF name (l.take i)))) ∧ Hid (Below w.heap.size w wr)) (fun _ vi _ => l.length - (RowKit.intOf vi).toNat)
  case atStart => exact ⟨0, Nat.zero_le _, rfl, World.ownsRow_nil _ _ _ _, Below.refl _ _⟩
  case round =>
    obtain ⟨i, hi, rfl, HO, HB⟩ := hrel
    rename World => W
    by_cases hlt : i < l.length
    · obtain ⟨a', c', e', hcap, hc⟩ := isFlds_below HS.out HB.out
      injection e' with e1 _ e2
      subst e1 e2
      obtain ⟨b, o, rfl, hc0, hc1⟩ := hc i (l.getD i ([], [])) (by simp [List.getD, hlt])
      have hm := HZ.out (l.getD i ([], [])) (by simp [List.getD, hlt])
      have htk : l.take (i + 1) = l.take i ++ [l.getD i ([], [])] := by
        rw [List.take_succ_eq_append_getElem hlt]; simp [List.getD, hlt]
      have hnx := delF_snocD (l.take i) (l.getD i ([], [])) name
      rw [← htk] at hnx
      have HNX := Lib.hid hnx
      have hal := delF_len name (l.take i)
      have htl : (l.take i).length ≤ i := by simp; omega
      have hal2 : (delF name (l.take i)).length ≤ 1048576 := by omega
      clear hc htk hnx hal htl
      generalize l.getD i ([], []) = f at *
      obtain ⟨n, x⟩ := f
      have hnz := size_mkS n
      simp only at hm hc0 hc1
      have HC := fun W : World => rsm_any (mkS n) (mkS name) W (by omega) (by rw [HNZ.out]; exact hn)
      rw [bs_mkS, bs_mkS] at HC
      have g0 : (0 : Int) ≤ (i : Int) := by omega
      have g1 : (i : Int) < (l.length : Int) := by omega
      have hlt0 := cell_lt (p := ⟨b, o + i * 2, none⟩) hc0
      have hlt1 := cell_lt (p := ⟨b, o + i * 2 + 1, none⟩) hc1
      clear hnz
      have hkk : isN name (n, x) = decide (lowL n = lowL name) := rfl
      rw [← hkk] at HC
      clear hkk
      generalize delF name (l.take i) = P at *
      cases hk : isN name (n, x)
      · rw [hk] at HC HNX
        have hx2 : delF name (l.take (i + 1)) = P ++ [(n, x)] := by rw [HNX.out]; simp
        have HX := Lib.hid hx2
        have HC2 := Lib.hid HC
        clear HC hk hx2
        go_wp2_with fail
        refine (HC2.out _).mono ?_
        rintro e w6 ⟨rfl, hb⟩
        have ho6 := keepD HO.out hb
        have hB' : w.heap.size ≤ w6.heap.size := Nat.le_trans HB.out.size hb.size
        have HB6 := Lib.hid (HB.out.trans (hb.mono HB.out.size))
        have p0 : w6.cell? ⟨b, o + i * 2, none⟩ = some (.string (mkS n)) := (hb.cell (p := ⟨b, o + i * 2, none⟩) hlt0).trans hc0
        have p1 : w6.cell? ⟨b, o + i * 2 + 1, none⟩ = some (.string (mkS x)) := (hb.cell (p := ⟨b, o + i * 2 + 1, none⟩) hlt1).trans hc1
        have hbal : Below w6.heap.size w6 (w6.alloc (Obj.cells #[.string (mkS n), .string (mkS x)] 31)) := (Below.refl _ _).alloc (Nat.le_refl _) _
        have HO7 := Lib.hid (keepD ho6 hbal)
        have HF7 := Lib.hid (isFlds_lit w6 n x)
        have HB7 := Lib.hid (HB6.out.trans (hbal.mono hB'))
        have hs7 : w.heap.size ≤ (w6.alloc (Obj.cells #[.string (mkS n), .string (mkS x)] 31)).heap.size := HB7.out.size
        clear hb ho6 hbal
        go_wp2_with (at_builtin; refine joinF_guarded (by rfl) _ _ rfl w.heap.size _ _ P [(n, x)] rfl rfl HO7.out HF7.out (fun _ _ h => by injection h with h1; cases h1) hs7 hal2 (by simp) ?_)
        intro v8 w8 ho8 hg8
        have HB8 := Lib.hid (HB7.out.trans (below_of_grownF hg8 HO7.out hs7))
        have e1 : (P ++ [(n, x)]).length = P.length + 1 := by simp
        have HO8 : Hid (w8.ownsRow w.heap.size 31 2 v8 (delF name (l.take (i + 1))).length (fcells (delF name (l.take (i + 1))))) := by
          show World.ownsRow _ _ _ _ _ _ _
          rw [HX.out]
          first | exact ho8 | (rw [e1]; exact ho8)
        clear ho8 hg8 e1
        go_wp2_with fail
        exact ⟨⟨i + 1, hlt, by go_num, HO8, HB8⟩, by simp [RowKit.intOf]; omega⟩
      · rw [hk] at HC HNX
        have hx2 : delF name (l.take (i + 1)) = P := by rw [HNX.out]; simp
        have HX := Lib.hid hx2
        have HC2 := Lib.hid HC
        clear HC hk hx2
        go_wp2_with fail
        refine (HC2.out _).mono ?_
        rintro e w5 ⟨rfl, hb⟩
        have HO5 := Lib.hid (keepD HO.out hb)
        have HB5 := Lib.hid (HB.out.trans (hb.mono HB.out.size))
        clear hb
        go_wp2_with fail
        refine ⟨⟨i + 1, hlt, by go_num, ?_, HB5⟩, by simp [RowKit.intOf]; omega⟩
        show World.ownsRow _ _ _ _ _ _ _
        rw [HX.out]
        exact HO5.out
    · have hil : l.take i = l := List.take_of_length_le (by omega)
      rw [hil] at HO
      go_wp2_with fail
      go_ret
      exact ⟨_, rfl, HO.out, HB.out⟩
end Tk
end Go.Proofs.YthooghgiokgdhaaGreatDoor
namespace Go.Proofs.YthooghgiokgdhaaGreatDoor
open Go.RowKit
namespace Tk

def stG (name x : Bs) : Bool → List (Bs × Bs) → List (Bs × Bs)
  | _, [] => []
  | th, f :: t => if isN name f then (if th then stG name x true t else (f.1, x) :: stG name x true t) else f :: stG name x th t
def anyN (name : Bs) (l : List (Bs × Bs)) : Bool := l.any (isN name)
theorem anyN_snoc (name : Bs) (l : List (Bs × Bs)) (f : Bs × Bs) : anyN name (l ++ [f]) = (anyN name l || isN name f) := by unfold anyN; simp
theorem stG_snoc (name x : Bs) (f : Bs × Bs) : ∀ (l : List (Bs × Bs)) (th : Bool), stG name x th (l ++ [f]) = stG name x th l ++ (if isN name f then (if th || anyN name l then [] else [(f.1, x)]) else [f])
  | [], th => by
    cases h : isN name f <;> cases th <;> simp [stG, h, anyN]
  | g :: t, th => by
    have h1 := stG_snoc name x f t true
    have h2 := stG_snoc name x f t th
    rw [List.cons_append]
    unfold stG
    cases hg : isN name g
    · simp only [Bool.false_eq_true, if_false, h2]
      rw [show anyN name (g :: t) = anyN name t by unfold anyN; simp [hg]]
      rfl
    · have ha : anyN name (g :: t) = true := by unfold anyN; simp [hg]
      cases th
      · simp only [if_true, Bool.false_eq_true, if_false, h1, ha]
        rfl
      · simp only [if_true, h1, ha]
        rfl
theorem stG_true (name x : Bs) : ∀ l : List (Bs × Bs), stG name x true l = delF name l
  | [] => rfl
  | f :: t => by
    rw [delF_cons]
    unfold stG
    rw [stG_true name x t]
    cases h : isN name f <;> simp
theorem stG_all (name x : Bs) : ∀ l : List (Bs × Bs), stG name x false l ++ (if anyN name l then [] else [(name, x)]) = setF name x l
  | [] => rfl
  | f :: t => by
    have ih := stG_all name x t
    unfold stG
    cases h : isN name f
    · rw [show anyN name (f :: t) = anyN name t by unfold anyN; simp [h]]
      simp only [Bool.false_eq_true, if_false, List.cons_append, ih]
      unfold setF
      rw [List.findIdx_cons, h]
      simp only [cond_false, List.length_cons, Nat.add_lt_add_iff_right]
      split
      · simp
      · simp
    · rw [show anyN name (f :: t) = true by unfold anyN; simp [h]]
      simp only [if_true, Bool.false_eq_true, if_false, List.append_nil, stG_true]
      unfold setF
      rw [List.findIdx_cons, h]
      simp
theorem stG_len (name x : Bs) : ∀ (l : List (Bs × Bs)) (th : Bool), (stG name x th l).length ≤ l.length
  | [], _ => Nat.le_refl _
  | f :: t, th => by
    have h1 := stG_len name x t true
    have h2 := stG_len name x t th
    unfold stG
    split
    · split
      · simp; omega
      · simp; omega
    · simp; omega

theorem below_put {w : World} {B k : Nat} (h : B ≤ k) (o : Nat) (v : Value) : Below B w (w.setCell ⟨k, o, none⟩ v) :=
  ⟨rfl, rfl, rfl, by simp, fun j hj => Below.heap_setCell _ _ _ _ (by show j ≠ k; omega)⟩
theorem own_aside {w : World} {B n size k : Nat} {v : Value} {xs : List Value} {e : TypeId} (h : w.ownsRow B e size v n xs) (hk : v.ownBlock ≠ some k) (o : Nat) (u : Value) : (w.setCell ⟨k, o, none⟩ u).ownsRow B e size v n xs := by
  rcases h.2 with hn | ⟨g, cap, cur, rfl, hb, hgg, rest⟩
  · exact ⟨h.1, .inl hn⟩
  · exact ⟨h.1, .inr ⟨g, cap, cur, rfl, hb, (Below.heap_setCell _ _ _ _ (by show g ≠ k; intro e2; exact hk (congrArg some e2))).trans hgg, rest⟩⟩

end Tk
end Go.Proofs.YthooghgiokgdhaaGreatDoor
namespace Go.Proofs.YthooghgiokgdhaaGreatDoor
open Go.RowKit
namespace Tk

theorem dig_at (i : Nat) (h : i < 10) : (⟨#[48, 49, 50, 51, 52, 53, 54, 55, 56, 57]⟩ : ByteArray).extract i (i + 1) = mkS (Lib.decDigits i) := by
  rw [Lib.decDigits_one h]
  have key : ∀ j : Fin 10, (⟨#[48, 49, 50, 51, 52, 53, 54, 55, 56, 57]⟩ : ByteArray).extract j.val (j.val + 1) = mkS [UInt8.ofNat (48 + j.val)] := by decide +kernel
  exact key ⟨i, h⟩
theorem dec_big (u : Nat) (h : ¬ u < 10) : Lib.decDigits u = Lib.decDigits (u / 10) ++ Lib.decDigits (u % 10) := by
  rw [Lib.decDigits, dif_neg h, Lib.decDigits_one (show u % 10 < 10 by omega)]

set_option maxHeartbeats 4000000 in
set_option maxRecDepth 100000 in
theorem rdig_nat : ∀ (k u : Nat), u ≤ k → u ≤ 9223372036854775807 → ∀ w : World, Calls Tryz.prog 126 #[.int .i64 (u : Int)] w fun e w' => e = .returned (.string (mkS (Lib.decDigits u))) ∧ w = w' := by
  intro k
  induction k with
  | zero =>
    intro u hu hm w
    obtain rfl : u = 0 := by omega
    have HE := Lib.hid (dig_at 0 (by decide))
    go_enter Tryz.func126, Tryz.ntmps126
    go_wp2_with fail
    go_ret
    exact ⟨by rw [← HE.out]; rfl, rfl⟩
  | succ k ih =>
    intro u hu hm w
    have n0 : ¬ (u : Int) < 0 := by omega
    by_cases hs : u < 10
    · have HE := Lib.hid (dig_at u hs)
      have m1 : (u : Int) < 10 := by omega
      have m2 : IntKind.i64.wrap ((u : Int) + 1) = (u : Int) + 1 := IntWalk.i64_in _ (by omega)
      have g0 : (0 : Int) ≤ (u : Int) := by omega
      have g1 : (u : Int) ≤ (u : Int) + 1 := by omega
      have g2 : (u : Int) + 1 ≤ 10 := by omega
      have m3 : ((u : Int) + 1).toNat = u + 1 := by omega
      clear ih
      go_enter Tryz.func126, Tryz.ntmps126
      go_wp2_with fail
      go_ret
      exact ⟨by rw [← HE.out]; rfl, rfl⟩
    · have H1 := Lib.hid (ih (u / 10) (by omega) (by omega) w)
      have H2 := Lib.hid (ih (u % 10) (by omega) (by omega) w)
      have HE := Lib.hid (dec_big u hs)
      have m1 : ¬ (u : Int) < 10 := by omega
      have q1 : Int.tdiv (u : Int) 10 = ((u / 10 : Nat) : Int) := by rw [Int.tdiv_eq_ediv_of_nonneg (by omega)]; omega
      have q2 : Int.tmod (u : Int) 10 = ((u % 10 : Nat) : Int) := by rw [Int.tmod_eq_emod_of_nonneg (by omega)]; omega
      have z1 : (mkS (Lib.decDigits (u / 10))).size ≤ 100 := by rw [size_mkS, Lib.decDigits_length]; have := nDigits_le 18 (u / 10) (by omega); omega
      have z2 : (mkS (Lib.decDigits (u % 10))).size ≤ 100 := by rw [size_mkS, Lib.decDigits_length]; have := nDigits_le 18 (u % 10) (by omega); omega
      clear ih
      go_enter Tryz.func126, Tryz.ntmps126
      go_wp2_with fail
      refine H1.out.mono ?_
      rintro e w1 ⟨rfl, rfl⟩
      go_wp2_with fail
      refine H2.out.mono ?_
      rintro e w1 ⟨rfl, rfl⟩
      go_wp2_with fail
      go_ret
      exact ⟨by rw [HE.out, ← mkS_append]; rfl, rfl⟩

theorem dec_step (q r : Nat) (hq : q ≠ 0) (hr : r < 10) : Lib.decDigits (q * 10 + r) = Lib.decDigits q ++ [UInt8.ofNat (48 + r)] := by
  rw [dec_big _ (by omega), show (q * 10 + r) / 10 = q by omega, show (q * 10 + r) % 10 = r by omega, Lib.decDigits_one hr]
theorem min_eq : mkS (digI (-9223372036854775808)) = ⟨#[45, 57, 50, 50, 51, 51, 55, 50, 48, 51, 54, 56, 53, 52, 55, 55, 53, 56, 48, 56]⟩ := by
  unfold digI
  rw [show (-9223372036854775808 : Int) = -((9223372036854775808 : Nat) : Int) from rfl, Lib.itoa_neg _ (by decide)]
  rw [show (9223372036854775808 : Nat) = 922337203685477580 * 10 + 8 from rfl, dec_step 922337203685477580 8 (by decide) (by decide), show (922337203685477580 : Nat) = 92233720368547758 * 10 + 0 from rfl, dec_step 92233720368547758 0 (by decide) (by decide), show (92233720368547758 : Nat) = 9223372036854775 * 10 + 8 from rfl, dec_step 9223372036854775 8 (by decide) (by decide), show (9223372036854775 : Nat) = 922337203685477 * 10 + 5 from rfl, dec_step 922337203685477 5 (by decide) (by decide), show (922337203685477 : Nat) = 92233720368547 * 10 + 7 from rfl, dec_step 92233720368547 7 (by decide) (by decide), show (92233720368547 : Nat) = 9223372036854 * 10 + 7 from rfl, dec_step 9223372036854 7 (by decide) (by decide), show (9223372036854 : Nat) = 922337203685 * 10 + 4 from rfl, dec_step 922337203685 4 (by decide) (by decide), show (922337203685 : Nat) = 92233720368 * 10 + 5 from rfl, dec_step 92233720368 5 (by decide) (by decide), show (92233720368 : Nat) = 9223372036 * 10 + 8 from rfl, dec_step 9223372036 8 (by decide) (by decide), show (9223372036 : Nat) = 922337203 * 10 + 6 from rfl, dec_step 922337203 6 (by decide) (by decide), show (922337203 : Nat) = 92233720 * 10 + 3 from rfl, dec_step 92233720 3 (by decide) (by decide), show (92233720 : Nat) = 9223372 * 10 + 0 from rfl, dec_step 9223372 0 (by decide) (by decide), show (9223372 : Nat) = 922337 * 10 + 2 from rfl, dec_step 922337 2 (by decide) (by decide), show (922337 : Nat) = 92233 * 10 + 7 from rfl, dec_step 92233 7 (by decide) (by decide), show (92233 : Nat) = 9223 * 10 + 3 from rfl, dec_step 9223 3 (by decide) (by decide), show (9223 : Nat) = 922 * 10 + 3 from rfl, dec_step 922 3 (by decide) (by decide), show (922 : Nat) = 92 * 10 + 2 from rfl, dec_step 92 2 (by decide) (by decide), show (92 : Nat) = 9 * 10 + 2 from rfl, dec_step 9 2 (by decide) (by decide), Lib.decDigits_one (show 9 < 10 by decide)]
  rfl
set_option maxHeartbeats 4000000 in
set_option maxRecDepth 100000 in
theorem rdig_any (n : Int) (w : World) (h0 : -9223372036854775808 ≤ n) (h1 : n ≤ 9223372036854775807) :
    Calls Tryz.prog 126 #[.int .i64 n] w fun e w' => e = .returned (.string (mkS (digI n))) ∧ w = w' := by
  by_cases hn : n < 0
  · by_cases hm : n = -9223372036854775808
    · have HE : Hid (mkS (digI n) = ⟨#[45, 57, 50, 50, 51, 51, 55, 50, 48, 51, 54, 56, 53, 52, 55, 55, 53, 56, 48, 56]⟩) := by
        show _ = _
        rw [hm]
        exact min_eq
      have m1 : IntKind.i64.wrap (-n) = n := by rw [hm]; decide
      have m2 : (n == n) = true := by simp
      clear hm h0 h1
      go_enter Tryz.func126, Tryz.ntmps126
      go_wp2_with fail
      go_ret
      exact ⟨by rw [HE.out]; rfl, rfl⟩
    · obtain ⟨u, rfl⟩ : ∃ u : Nat, n = -(u : Int) := ⟨n.natAbs, by omega⟩
      have H1 := Lib.hid (rdig_nat u u (Nat.le_refl _) (by omega) w)
      have HE : Hid (mkS (digI (-(u : Int))) = (⟨#[45]⟩ : ByteArray) ++ mkS (Lib.decDigits u)) := by
        show _ = _
        unfold digI
        rw [Lib.itoa_neg _ (by omega), show (⟨#[45]⟩ : ByteArray) = mkS [45] from rfl, mkS_append]; rfl
      have m0 : -(u : Int) < 0 := hn
      have m1 : IntKind.i64.wrap (u : Int) = (u : Int) := IntWalk.i64_in _ (by omega)
      have m2 : (-(u : Int) == (u : Int)) = false := by simp; omega
      have z1 : (mkS (Lib.decDigits u)).size ≤ 100 := by rw [size_mkS, Lib.decDigits_length]; have := nDigits_le 18 u (by omega); omega
      clear hn hm
      go_enter Tryz.func126, Tryz.ntmps126
      go_wp2_with fail
      refine H1.out.mono ?_
      rintro e w1 ⟨rfl, rfl⟩
      go_wp2_with fail
      go_ret
      exact ⟨by rw [HE.out]; rfl, rfl⟩
  · obtain ⟨u, rfl⟩ : ∃ u : Nat, n = (u : Int) := ⟨n.toNat, by omega⟩
    have h := rdig_nat u u (Nat.le_refl _) (by omega) w
    unfold digI
    rw [Lib.itoa_nonneg]
    exact h
end Tk
end Go.Proofs.YthooghgiokgdhaaGreatDoor
namespace Go.Proofs.YthooghgiokgdhaaGreatDoor
open Go.RowKit
namespace Tk

set_option maxHeartbeats 8000000 in
set_option maxRecDepth 100000 in
theorem rkey_any (v vl : Value) (l : List (Bs × Bs)) (names : List Bs) (w : World) (hs : IsStrs w v names) (hf : IsFlds w vl l) (zl : sumF l ≤ 400000) (nl : l.length ≤ 100000) (hz : ∀ x ∈ names, x.length ≤ 1000000) (hl : names.length ≤ 1000) :
    Calls Tryz.prog 68 #[v, vl] w fun e w' => e = .returned (.string (mkS (keyV (vlV l) names))) ∧ Below w.heap.size w w' := by
  have HS := Lib.hid hs
  have HF := Lib.hid hf
  have HZ := Lib.hid hz
  have HVl := Lib.hid (fun n => vlV_len l n (by omega))
  have HV := Lib.hid (fun (W : World) (n : Bs) (hs : IsFlds W vl l) (hn : n.length ≤ 1000000) => rvval_any vl l n W hs zl (by omega) nl)
  have HKl := Lib.hid (fun (i : Nat) => keyV_len (vlV l) (names.take i) (fun n hn => ⟨hz n (List.mem_of_mem_take hn), vlV_len l n (by omega)⟩))
  obtain ⟨a, cap, rfl⟩ : ∃ a cap, v = .slice a names.length cap := by obtain ⟨a, c, h, -⟩ := hs; exact ⟨a, c, h⟩
  obtain ⟨al, cl, rfl⟩ : ∃ a cap, vl = .slice a l.length cap := by obtain ⟨a, c, h, -⟩ := hf; exact ⟨a, c, h⟩
  clear hs hf hz zl nl
  go_enter Tryz.func68, Tryz.ntmps68
  go_wp2_with fail
  go_loopw [5, 6, 7] (fun vo vi _ wr => ∃ i : Nat, i ≤ names.length ∧ vi = .int .i64 i ∧ vo = .string (mkS (keyV (vlV l) (names.take i))) ∧ Hid (Below w.heap.size w wr)) (fun _ vi _ _ => names.length - (RowKit.intOf vi).toNat)
  case atStart => exact ⟨0, Nat.zero_le _, rfl, rfl, Below.refl _ _⟩
  case round =>
    obtain ⟨i, hi, rfl, rfl, hB3⟩ := hrel
    rename World => W3
    by_cases hlt : i < names.length
    · have hbw : Below w.heap.size w W3 := hB3.out
      obtain ⟨a', c', e', hc⟩ := isStrsV_below HS.out hbw
      injection e' with e1 _ e2
      subst e1 e2
      obtain ⟨b, o, rfl, hc0⟩ := hc i (names.getD i []) (by simp [List.getD, hlt])
      have hm := HZ.out (names.getD i []) (by simp [List.getD, hlt])
      have htk := take_nextV names i hlt
      have hks := key_snoc (vlV l) (names.take i) (names.getD i [])
      rw [← htk] at hks
      have hkl := HKl.out i
      have hkm : (names.take i).length ≤ 1000 := by rw [List.length_take]; omega
      have hP : (keyV (vlV l) (names.take i)).length ≤ 5000030000 := by omega
      have HVal := Lib.hid (HV.out W3 (names.getD i []) (isFlds_below HF.out hbw) hm)
      have hvl := HVl.out (names.getD i [])
      have hent : entV (names.getD i []) (vlV l (names.getD i [])) = lowL (names.getD i []) ++ (58 :: (digL (vlV l (names.getD i [])).length ++ (58 :: (vlV l (names.getD i []) ++ [10])))) := rfl
      have HKS := Lib.hid (hks.trans (by rw [hent]))
      have hdl := digL_len 19 (vlV l (names.getD i [])).length (by omega)
      have hvv : vlV l (names.getD i []) = valV (allF l (names.getD i [])) := rfl
      rw [← hvv] at HVal
      clear hc htk hbw hks hkl hkm hent hvv
      generalize names.getD i [] = n at *
      generalize vlV l n = x at *
      generalize keyV (vlV l) (names.take i) = P at *
      have HLw := Lib.hid (fun W : World => show Calls Tryz.prog 90 #[.string (mkS n)] W (fun e w' => e = .returned (.string (mkS (lowL (bs (mkS n))))) ∧ Below W.heap.size W w') from refLower_any (mkS n) W (by rw [size_mkS]; omega))
      rw [bs_mkS] at HLw
      have hll : (lowL n).length = n.length := by simp [lowL]
      have HII := Lib.hid (fun (W : World) => rdig_nat x.length x.length (Nat.le_refl _) (by omega) W)
      rw [decV x.length x.length (Nat.le_refl _)] at HII
      have hxz := size_mkS x
      generalize lowL n = u at *
      generalize digL x.length = d at *
      have HCC := Lib.hid (fun a b : Bs => mkS_append a b)
      have s1 := size_mkS P
      have s2 := size_mkS u
      have s3 := size_mkS d
      have g0 : (0 : Int) ≤ (i : Int) := by omega
      have g1 : (i : Int) < (names.length : Int) := by omega
      go_wp2_with fail
      refine HVal.out.mono ?_
      rintro e w1 ⟨rfl, hb⟩
      have HB1 := Lib.hid (hB3.out.trans (hb.mono hB3.out.size))
      have hc1 := (hb.cell (p := ⟨b, o + i, none⟩) (cell_lt (p := ⟨b, o + i, none⟩) hc0)).trans hc0
      clear hb hc0
      go_wp2_with fail
      refine (HLw.out _).mono ?_
      rintro e w2 ⟨rfl, hb⟩
      have HB2 := Lib.hid (HB1.out.trans (hb.mono HB1.out.size))
      clear hb hc1
      go_wp2_with fail
      refine (HII.out _).mono ?_
      rintro e w3 ⟨rfl, rfl⟩
      go_wp2_with fail
      refine ⟨⟨i + 1, hlt, by go_num, ?_, HB2⟩, by simp [RowKit.intOf]; omega⟩
      rw [HKS.out, show (⟨#[58]⟩ : ByteArray) = mkS [58] from rfl, show (⟨#[10]⟩ : ByteArray) = mkS [10] from rfl]
      simp only [mkS_append]
      simp
    · obtain rfl : i = names.length := by omega
      have hF : names.take names.length = names := List.take_of_length_le (Nat.le_refl _)
      rw [hF]
      go_wp2_with fail
      go_ret
      exact ⟨rfl, hB3.out⟩
end Tk
end Go.Proofs.YthooghgiokgdhaaGreatDoor
