/- HopA HopI HopK FldW Ord HopB HopC HopD, put together. -/
import Derived.Test.YtcddkeekabafgaaDoorQB
import Derived.Test.YtcddkeekabafgaaDoorQA
import Derived.Maps.OwnOps
import Derived.Maps.OwnSet
import Derived.Maps.Views
import Derived.StringKeys
import Derived.Deep.RegionHeld3
import Derived.Laws.Tables
import Derived.Laws.CopyOwn
namespace Go.Proofs.YtcddkeekabafgaaDoor
open Go.RowKit Go.Maps Go.WideMaps
namespace Tk

theorem unitZero (w : World) : (zeroValue 63).run Tryd.prog w = .ok (.agg #[]) w := by kernel_rfl
theorem strKey : Maps.Keyed Tryd.prog 9 := string_keyed Tryd.underlying9
theorem keyIs (x : Bs) (h : x.length ≤ 1099511627776) : keyOf Tryd.prog 9 (.string (mkS x)) = some (.string x) := by
  have h := keyOf_string_mk Tryd.underlying9 (s := mkS x) (by rw [size_mkS]; simp only [maxLen]; omega)
  rw [h]; exact congrArg (fun y => some (Lit.string y)) (bs_mkS x)

/-- block b is a map to nothing whose keys are these names -/
def SetIs (w : World) (b : Nat) (S : List Bs) : Prop :=
  ∃ D : DataW Unit, w.ownsMap Tryd.prog 9 (unitElem (H := Unit)) b S.length D ∧ Maps.IsMap D ∧ ∀ x : Bs, Maps.has D (.string x) = decide (x ∈ S)
theorem SetIs.made (w : World) : SetIs (w.alloc (.map #[] 0)) w.heap.size [] :=
  ⟨.map [], World.ownsMap_made _ _ _ _, Maps.isMap_empty, fun x => by simp [Maps.has_eq]⟩
theorem SetIs.lt {w : World} {b : Nat} {S : List Bs} (h : SetIs w b S) : b < w.heap.size := by
  obtain ⟨D, h, -⟩ := h
  exact h.lt
theorem SetIs.kept {w w' : World} {b : Nat} {S : List Bs} {r : Option Nat} (h : SetIs w b S) (hg : w.grownBy w' r) (hr : some b ≠ r) : SetIs w' b S := by
  obtain ⟨D, h1, h2⟩ := h
  exact ⟨D, h1.kept hg hr, h2⟩
theorem grown_below {w w' : World} (h : Below w.heap.size w w') (r : Option Nat) : w.grownBy w' r := ⟨h.os, h.tape, h.output, h.size, fun k hk _ => h.block k hk⟩
theorem SetIs.later {w w' : World} {b : Nat} {S : List Bs} (h : SetIs w b S) (hb : Below w.heap.size w w') : SetIs w' b S := h.kept (grown_below hb none) (by simp)
theorem SetIs.more {w' : World} {b : Nat} {S : List Bs} {x : Bs} {D : DataW Unit} (hI : Maps.IsMap D) (hH : ∀ x : Bs, Maps.has D (.string x) = decide (x ∈ S))
    (h : w'.ownsMap Tryd.prog 9 (unitElem (H := Unit)) b (S.length + 1) (D.put (.string x) (.agg []))) : SetIs w' b (S ++ [x]) := by
  refine ⟨_, by rw [List.length_append]; exact h, hI.put _ _, fun y => ?_⟩
  by_cases e : y = x
  · subst e
    rw [Maps.has_put_same hI (by simp [WideAt.IsKeyLit]), decide_eq_true (by simp)]
  · rw [Maps.has_put_other (fun h => e (by injection h)), hH]
    simp [e]
theorem SetIs.cong {w : World} {b : Nat} {S T : List Bs} (h : SetIs w b S) (e : S = T) : SetIs w b T := e ▸ h
theorem grown_trans {a b c : World} {r : Option Nat} (h : a.grownBy b r) (k : b.grownBy c r) : a.grownBy c r :=
  ⟨k.os.trans h.os, k.tape.trans h.tape, k.output.trans h.output, Nat.le_trans h.size k.size, fun i hi hne => (k.block i (Nat.lt_of_lt_of_le hi h.size) hne).trans (h.block i hi hne)⟩
theorem grown_refl (a : World) (r : Option Nat) : a.grownBy a r := ⟨rfl, rfl, rfl, Nat.le_refl _, fun _ _ _ => rfl⟩
theorem below_of_set {a b : World} {B k : Nat} (h : a.grownBy b (some k)) (hk : B ≤ k) (hB : B ≤ a.heap.size) : Below B a b :=
  ⟨h.os, h.tape, h.output, h.size, fun i hi => h.block i (by omega) (by intro e; injection e with e; omega)⟩
theorem isStrs_grown {a b : World} {r : Option Nat} {v : Value} {l : List Bs} (h : IsStrs a v l) (hg : a.grownBy b r) (hr : ∀ k, r = some k → v.ownBlock ≠ some k) : IsStrs b v l := by
  obtain ⟨ad, c, rfl, hc⟩ := h
  refine ⟨ad, c, rfl, fun j t hj => ?_⟩
  obtain ⟨k, o, rfl, hcell⟩ := hc j t hj
  refine ⟨k, o, rfl, hg.cell hcell fun e => hr k e.symm rfl⟩

set_option maxHeartbeats 2000000 in
set_option maxRecDepth 100000 in
theorem has_any (b : Nat) (S : List Bs) (name : Bs) (w : World) (hS : SetIs w b S) (hn : name.length ≤ 1099511627776) :
    Calls Tryd.prog 28 #[.map (some b), .string (mkS name)] w fun e w' => e = .returned (.bool (decide (lowL name ∈ S))) ∧ Below w.heap.size w w' := by
  have HL : Hid (∀ W : World, Calls Tryd.prog 43 #[.string (mkS name)] W (StrPost (lowL name) W)) := fun W => by
    have h := tlower_any (mkS name) W (by rw [size_mkS]; omega)
    rw [bs_mkS] at h
    exact h
  have HK := Lib.hid (keyIs (lowL name) (by rw [length_lowL]; exact hn))
  have HS := Lib.hid hS
  clear hS
  go_enter Tryd.func28, Tryd.ntmps28
  go_wp2_with fail
  refine (HL.out _).mono ?_
  rintro e w1 ⟨rfl, hb⟩
  obtain ⟨D, hM, hI, hH⟩ := HS.out.later hb
  have HB := Lib.hid hb
  have HM := Lib.hid hM
  have hhas : Maps.has D (.string (lowL name)) = decide (lowL name ∈ S) := hH _
  have hsz := hb.size
  clear hb hM hI hH
  generalize hd : decide (lowL name ∈ S) = d at *
  have HD := Lib.hid hd
  clear hd
  go_wp2_with (at_lookup; refine wpList_lookup_own_unit _ rfl _ _ 51 rfl 9 63 strKey Tryd.underlying51 (unitZero _) b _ D rfl HM.out _ (.string (lowL name)) rfl HK.out ?_)
  go_ret
  exact ⟨by rw [HD.out]; rfl, HB.out.alloc hsz _⟩

set_option maxHeartbeats 4000000 in
set_option maxRecDepth 100000 in
theorem add_any (b : Nat) (S L : List Bs) (v : Value) (w : World) (hS : SetIs w b S) (hs : IsStrs w v L) (hv : v.ownBlock ≠ some b) (hz : ∀ x ∈ L, x.length ≤ 1099511627776) (hl : L.length ≤ 1048576) (hl2 : S.length ≤ 1048576) :
    Calls Tryd.prog 30 #[.map (some b), v] w fun e w' => e = .returned (.tuple #[]) ∧ SetIs w' b (S ++ L.map lowL) ∧ w.grownBy w' (some b) := by
  have HL : Hid (∀ (x : Bs) (W : World), x.length ≤ 1099511627776 → Calls Tryd.prog 43 #[.string (mkS x)] W (StrPost (lowL x) W)) := fun x W hx => by
    have h := tlower_any (mkS x) W (by rw [size_mkS]; omega)
    rw [bs_mkS] at h
    exact h
  have HS := Lib.hid hs
  have HZ := Lib.hid hz
  have HV := Lib.hid hv
  have HSet := Lib.hid hS
  obtain ⟨a, cap, rfl⟩ : ∃ a cap, v = .slice a L.length cap := by obtain ⟨a, c, h, -⟩ := hs; exact ⟨a, c, h⟩
  clear hs hz hv hS
  go_enter Tryd.func30, Tryd.ntmps30
  go_wp2_with fail
  go_loopw [8] (fun vi wr => ∃ i : Nat, i ≤ L.length ∧ vi = .int .i64 i ∧ Hid (SetIs wr b (S ++ (L.take i).map lowL)) ∧ Hid (w.grownBy wr (some b))) (fun vi _ => L.length - (RowKit.intOf vi).toNat)
  case atStart => exact ⟨0, Nat.zero_le _, rfl, SetIs.cong HSet.out (by simp), grown_refl _ _⟩
  case round =>
    obtain ⟨i, hi, rfl, HI, HG⟩ := hrel
    rename World => W
    by_cases hlt : i < L.length
    · obtain ⟨a', c', e', hc⟩ := isStrs_grown HS.out HG.out (fun k e => by cases e; exact HV.out)
      injection e' with e1 _ e2
      subst e1 e2
      obtain ⟨k, o, rfl, hc0⟩ := hc i (L.getD i []) (by simp [List.getD, hlt])
      have hm := HZ.out (L.getD i []) (by simp [List.getD, hlt])
      have htk : (L.take (i + 1)).map lowL = (L.take i).map lowL ++ [lowL (L.getD i [])] := by
        rw [List.take_succ_eq_append_getElem hlt, List.map_append, show L.getD i [] = L[i] by simp [List.getD, hlt]]; rfl
      have HTK := Lib.hid htk
      clear hc htk
      generalize L.getD i [] = x at *
      have HK := Lib.hid (keyIs (lowL x) (by rw [length_lowL]; exact hm))
      have HC := Lib.hid (HL.out x W hm)
      have g0 : (0 : Int) ≤ (i : Int) := by omega
      have g1 : (i : Int) < (L.length : Int) := by omega
      have hlen : (S ++ (L.take i).map lowL).length < maxLen := by simp [maxLen]; omega
      go_wp2_with fail
      refine HC.out.mono ?_
      rintro e w1 ⟨rfl, hb⟩
      obtain ⟨D, hM, hI, hH⟩ := HI.out.later hb
      have HG1 := Lib.hid (grown_trans HG.out (grown_below hb (some b)))
      have HM := Lib.hid hM
      have HIs := Lib.hid hI
      have HH := Lib.hid hH
      clear hb hM hI hH
      go_wp2_with (first
        | (at_mapUpdate; refine wpList_mapUpdate_own _ rfl _ _ _ 51 rfl 9 63 strKey Tryd.underlying51 unitElem b _ D rfl HM.out hlen _ _ (.string (lowL x)) rfl rfl HK.out (.agg []) [] unitElem_mk ?_; intro w2 hown2 hgrow2; have HS2 := Lib.hid (SetIs.more HIs.out HH.out hown2); have HG2 := Lib.hid (grown_trans HG1.out hgrow2); clear hown2 hgrow2))
      refine ⟨⟨i + 1, hlt, by go_num, ?_, HG2⟩, by simp [RowKit.intOf]; omega⟩
      show SetIs _ _ _
      rw [HTK.out, ← List.append_assoc]
      exact HS2.out
    · obtain rfl : i = L.length := by omega
      have hfin := HI.out
      rw [List.take_length] at hfin
      have HF := Lib.hid hfin
      clear hfin
      go_wp2_with fail
      refine bodyPost_end (v := .tuple #[]) ?_ rfl ⟨rfl, HF.out, HG.out⟩
      simp [results, Tryd.results30, go_sem]

set_option maxHeartbeats 4000000 in
set_option maxRecDepth 100000 in
theorem always_any (w : World) :
    Calls Tryd.prog 29 #[] w fun e w' => e = .returned (.map (some w.heap.size)) ∧ SetIs w' w.heap.size hopL ∧ Below w.heap.size w w' := by
  have hmm := @run_makeMap Tryd.prog
  have HM := Lib.hid (SetIs.made w)
  have HB0 := Lib.hid (show Below w.heap.size w (w.alloc (.map #[] 0)) from (Below.refl _ _).alloc (Nat.le_refl _) _)
  have hsz : (w.alloc (.map #[] 0)).heap.size = w.heap.size + 1 := by simp
  go_enter Tryd.func29, Tryd.ntmps29
  go_wp2_with fail
  generalize w.alloc (.map #[] 0) = W at *
  have hcs : (strs hopN).toArray = #[.string ⟨#[67, 111, 110, 110, 101, 99, 116, 105, 111, 110]⟩, .string ⟨#[75, 101, 101, 112, 45, 65, 108, 105, 118, 101]⟩, .string ⟨#[80, 114, 111, 120, 121, 45, 67, 111, 110, 110, 101, 99, 116, 105, 111, 110]⟩, .string ⟨#[84, 69]⟩, .string ⟨#[84, 114, 97, 105, 108, 101, 114]⟩, .string ⟨#[84, 114, 97, 110, 115, 102, 101, 114, 45, 69, 110, 99, 111, 100, 105, 110, 103]⟩, .string ⟨#[85, 112, 103, 114, 97, 100, 101]⟩] := rfl
  have hs0 := isStrs_lit W hopN #[.string ⟨#[67, 111, 110, 110, 101, 99, 116, 105, 111, 110]⟩, .string ⟨#[75, 101, 101, 112, 45, 65, 108, 105, 118, 101]⟩, .string ⟨#[80, 114, 111, 120, 121, 45, 67, 111, 110, 110, 101, 99, 116, 105, 111, 110]⟩, .string ⟨#[84, 69]⟩, .string ⟨#[84, 114, 97, 105, 108, 101, 114]⟩, .string ⟨#[84, 114, 97, 110, 115, 102, 101, 114, 45, 69, 110, 99, 111, 100, 105, 110, 103]⟩, .string ⟨#[85, 112, 103, 114, 97, 100, 101]⟩] 9 7 hcs.symm
  rw [hsz] at hs0
  have HS := Lib.hid hs0
  have hb1 : Below W.heap.size W (W.alloc (Obj.cells #[.string ⟨#[67, 111, 110, 110, 101, 99, 116, 105, 111, 110]⟩, .string ⟨#[75, 101, 101, 112, 45, 65, 108, 105, 118, 101]⟩, .string ⟨#[80, 114, 111, 120, 121, 45, 67, 111, 110, 110, 101, 99, 116, 105, 111, 110]⟩, .string ⟨#[84, 69]⟩, .string ⟨#[84, 114, 97, 105, 108, 101, 114]⟩, .string ⟨#[84, 114, 97, 110, 115, 102, 101, 114, 45, 69, 110, 99, 111, 100, 105, 110, 103]⟩, .string ⟨#[85, 112, 103, 114, 97, 100, 101]⟩] 9)) := (Below.refl _ _).alloc (Nat.le_refl _) _
  have HSet := Lib.hid (HM.out.later hb1)
  have HB1 := Lib.hid (HB0.out.trans (hb1.mono (by omega)))
  have hs2 : w.heap.size ≤ (W.alloc (Obj.cells #[.string ⟨#[67, 111, 110, 110, 101, 99, 116, 105, 111, 110]⟩, .string ⟨#[75, 101, 101, 112, 45, 65, 108, 105, 118, 101]⟩, .string ⟨#[80, 114, 111, 120, 121, 45, 67, 111, 110, 110, 101, 99, 116, 105, 111, 110]⟩, .string ⟨#[84, 69]⟩, .string ⟨#[84, 114, 97, 105, 108, 101, 114]⟩, .string ⟨#[84, 114, 97, 110, 115, 102, 101, 114, 45, 69, 110, 99, 111, 100, 105, 110, 103]⟩, .string ⟨#[85, 112, 103, 114, 97, 100, 101]⟩] 9)).heap.size := by simp; omega
  clear hb1 hs0 hcs
  generalize W.alloc (Obj.cells #[.string ⟨#[67, 111, 110, 110, 101, 99, 116, 105, 111, 110]⟩, .string ⟨#[75, 101, 101, 112, 45, 65, 108, 105, 118, 101]⟩, .string ⟨#[80, 114, 111, 120, 121, 45, 67, 111, 110, 110, 101, 99, 116, 105, 111, 110]⟩, .string ⟨#[84, 69]⟩, .string ⟨#[84, 114, 97, 105, 108, 101, 114]⟩, .string ⟨#[84, 114, 97, 110, 115, 102, 101, 114, 45, 69, 110, 99, 111, 100, 105, 110, 103]⟩, .string ⟨#[85, 112, 103, 114, 97, 100, 101]⟩] 9) = W2 at *
  have HA : Hid (Calls Tryd.prog 30 #[.map (some w.heap.size), .slice (some ⟨w.heap.size + 1, 0, none⟩) 7 7] W2 fun e w' => e = .returned (.tuple #[]) ∧ SetIs w' w.heap.size ([] ++ hopN.map lowL) ∧ W2.grownBy w' (some w.heap.size)) :=
    add_any w.heap.size [] hopN _ _ HSet.out HS.out (by intro e; injection e with e; exact absurd e (Nat.succ_ne_self _)) (by decide) (by decide) (by decide)
  refine HA.out.mono ?_
  rintro e w3 ⟨rfl, h1, h2⟩
  have H1 : Hid (SetIs w3 w.heap.size hopL) := h1
  have H2 := Lib.hid (HB1.out.trans (below_of_set h2 (Nat.le_refl _) hs2))
  clear h1 h2
  go_wp2_with fail
  go_ret
  exact ⟨rfl, H1.out, H2.out⟩

set_option maxHeartbeats 1000000 in
theorem hop_any (name : Bs) (w : World) (hn : name.length ≤ 1099511627776) :
    Calls Tryd.prog 10 #[.string (mkS name)] w fun e w' => e = .returned (.bool (isHop name)) ∧ Below w.heap.size w w' := by
  have HA := Lib.hid (always_any w)
  have hd : isHop name = decide (lowL name ∈ hopL) := rfl
  have HD := Lib.hid hd
  clear hd
  go_enter Tryd.func10, Tryd.ntmps10
  go_wp2_with fail
  refine HA.out.mono ?_
  rintro e w1 ⟨rfl, h1, hb⟩
  have HH := Lib.hid (has_any w.heap.size hopL name w1 h1 hn)
  have HB := Lib.hid hb
  have hsz := hb.size
  clear h1 hb
  go_wp2_with fail
  refine HH.out.mono ?_
  rintro e w2 ⟨rfl, hb⟩
  have HB2 := Lib.hid (HB.out.trans (hb.mono hsz))
  clear hb
  go_wp2_with fail
  go_ret
  exact ⟨by rw [HD.out]; rfl, HB2.out⟩
end Tk
end Go.Proofs.YtcddkeekabafgaaDoor
namespace Go.Proofs.YtcddkeekabafgaaDoor
open Go.RowKit
namespace Tk

/-- the function value: is the field's name in the set? -/
def setV (g : Nat) : Value := .func (.func 48) #[] #[.pointer (some ⟨g, 0, none⟩)]
/-- the box that it holds: a set -/
def HasM (w : World) (g b : Nat) (S : List Bs) : Prop := w.cell? ⟨g, 0, none⟩ = some (.map (some b)) ∧ SetIs w b S
theorem HasM.later {w w' : World} {g b : Nat} {S : List Bs} (h : HasM w g b S) (hb : Below w.heap.size w w') : HasM w' g b S := ⟨(hb.cell (p := ⟨g, 0, none⟩) (cell_lt (p := ⟨g, 0, none⟩) h.1)).trans h.1, h.2.later hb⟩

set_option maxHeartbeats 2000000 in
set_option maxRecDepth 100000 in
theorem without1_any (g b : Nat) (S : List Bs) (n x : Bs) (w : World) (hc : HasM w g b S) (hn : n.length ≤ 1099511627776) :
    Calls Tryd.prog 48 #[.agg #[.string (mkS n), .string (mkS x)], .pointer (some ⟨g, 0, none⟩)] w fun e w' => e = .returned (.bool (inS S (n, x))) ∧ Below w.heap.size w w' := by
  have hb0 : Below w.heap.size w (w.alloc (Obj.cells #[.string (mkS n), .string (mkS x)] 24)) := (Below.refl _ _).alloc (Nat.le_refl _) _
  have hc1 := hc.later hb0
  have HH := Lib.hid (has_any b S n _ hc1.2 hn)
  have hc0 := hc1.1
  have hv : inS S (n, x) = decide (lowL n ∈ S) := rfl
  have HV := Lib.hid hv
  have HB0 := Lib.hid hb0
  have hsz : w.heap.size ≤ (w.alloc (Obj.cells #[.string (mkS n), .string (mkS x)] 24)).heap.size := by simp
  have HF0 := Lib.hid (Two.new w 24 (.string (mkS n)) (.string (mkS x)))
  have hq0 := HF0.out.c0
  clear hv hb0 hc1 hc
  go_enter Tryd.func48, Tryd.ntmps48
  go_wp2_with fail
  generalize w.alloc (Obj.cells #[.string (mkS n), .string (mkS x)] 24) = W at *
  refine HH.out.mono ?_
  rintro e w' ⟨rfl, hb⟩
  have HB1 := Lib.hid (HB0.out.trans (hb.mono hsz))
  clear hb
  go_wp2_with fail
  go_ret
  exact ⟨by rw [HV.out]; rfl, HB1.out⟩

/-- where the first field of this name is, or -1 -/
def idxS (S : List Bs) (l : List (Bs × Bs)) : Int := if l.findIdx (inS S) < l.length then (l.findIdx (inS S) : Int) else -1
theorem idxS_hit (S : List Bs) (l : List (Bs × Bs)) (i : Nat) (hi : i < l.length) (h1 : ∀ f ∈ l.take i, inS S f = false) (h2 : inS S (l.getD i ([], [])) = true) : l.findIdx (inS S) = i := by
  rw [List.findIdx_eq hi]
  refine ⟨by simpa [List.getD, hi] using h2, fun j hj => ?_⟩
  refine h1 _ ?_
  rw [List.mem_take_iff_getElem]
  exact ⟨j, by omega, rfl⟩
theorem idxS_no (S : List Bs) (l : List (Bs × Bs)) (h1 : ∀ f ∈ l, inS S f = false) : l.findIdx (inS S) = l.length := by
  rw [List.findIdx_eq_length]; exact h1

set_option maxHeartbeats 4000000 in
set_option maxRecDepth 100000 in
theorem indexS_any (v : Value) (g k0 : Nat) (S : List Bs) (l : List (Bs × Bs)) (w : World) (hs : IsFlds w v l) (hg : HasM w g k0 S) (hz : ∀ f ∈ l, f.1.length ≤ 1099511627776 ∧ f.2.length ≤ 1099511627776) (hl : l.length ≤ 1048576) :
    Calls Tryd.prog 56 #[v, setV g] w fun e w' => e = .returned (.int .i64 (idxS S l)) ∧ Below w.heap.size w w' := by
  have HS := Lib.hid hs
  have HZ := Lib.hid hz
  have HG := Lib.hid hg
  obtain ⟨a, cap, rfl⟩ : ∃ a cap, v = .slice a l.length cap := by obtain ⟨a, c, h, -⟩ := hs; exact ⟨a, c, h⟩
  clear hs hz hg
  unfold setV
  go_enter Tryd.func56, Tryd.ntmps56
  go_wp2_with fail
  go_loopw [5, 8] (fun _ vi wr => ∃ i : Nat, i ≤ l.length ∧ vi = .int .i64 i ∧ Hid (∀ f ∈ l.take i, inS S f = false) ∧ Hid (Below w.heap.size w wr)) (fun _ vi _ => l.length - (RowKit.intOf vi).toNat)
  case atStart => exact ⟨0, Nat.zero_le _, rfl, fun f hf => by simp at hf, Below.refl _ _⟩
  case round =>
    obtain ⟨i, hi, rfl, HA, HB⟩ := hrel
    rename World => W
    by_cases hlt : i < l.length
    · obtain ⟨a', c', e', hcap, hc⟩ := isFlds_below HS.out HB.out
      injection e' with e1 _ e2
      subst e1 e2
      obtain ⟨b, o, rfl, hc0, hc1⟩ := hc i (l.getD i ([], [])) (by simp [List.getD, hlt])
      have hm := HZ.out (l.getD i ([], [])) (by simp [List.getD, hlt])
      have hhit := idxS_hit S l i hlt HA.out
      have htk : l.take (i + 1) = l.take i ++ [l.getD i ([], [])] := by
        rw [List.take_succ_eq_append_getElem hlt]; simp [List.getD, hlt]
      have HTK := Lib.hid htk
      have HHit := Lib.hid hhit
      clear hc htk hhit
      generalize l.getD i ([], []) = f at *
      obtain ⟨n, x⟩ := f
      simp only at hm hc0 hc1
      have HC := without1_any g k0 S n x W (HG.out.later HB.out) hm.1
      have g0 : (0 : Int) ≤ (i : Int) := by omega
      have g1 : (i : Int) < (l.length : Int) := by omega
      cases hk : inS S (n, x)
      · rw [hk] at HC
        have HA2 : Hid (∀ f ∈ l.take (i + 1), inS S f = false) := by
          intro f hf
          rw [HTK.out, List.mem_append, List.mem_singleton] at hf
          rcases hf with hf | rfl
          · exact HA.out f hf
          · exact hk
        have HC2 := Lib.hid HC
        clear HC hk
        go_wp2_with fail
        refine HC2.out.mono ?_
        rintro e w' ⟨rfl, hb⟩
        have HB2 := Lib.hid (HB.out.trans (hb.mono HB.out.size))
        clear hb
        go_wp2_with fail
        exact ⟨⟨i + 1, hlt, by go_num, HA2, HB2⟩, by simp [RowKit.intOf]; omega⟩
      · rw [hk] at HC
        have hidx : idxS S l = (i : Int) := by unfold idxS; rw [HHit.out hk, if_pos hlt]
        have HX := Lib.hid hidx
        have HC2 := Lib.hid HC
        clear HC hk hidx
        go_wp2_with fail
        refine HC2.out.mono ?_
        rintro e w' ⟨rfl, hb⟩
        have HB2 := Lib.hid (HB.out.trans (hb.mono HB.out.size))
        clear hb
        go_wp2_with fail
        go_ret
        exact ⟨by rw [HX.out]; rfl, HB2.out⟩
    · have hil : l.take i = l := List.take_of_length_le (by omega)
      rw [hil] at HA
      have hidx : idxS S l = -1 := by unfold idxS; rw [idxS_no S l HA.out, if_neg (by omega)]
      have HX := Lib.hid hidx
      clear hidx hil
      go_wp2_with fail
      go_ret
      exact ⟨by rw [HX.out]; rfl, HB.out⟩
end Tk
end Go.Proofs.YtcddkeekabafgaaDoor
namespace Go.Proofs.YtcddkeekabafgaaDoor
open Go.RowKit
namespace Tk

theorem SetIs.setCell {w : World} {b : Nat} {S : List Bs} (h : SetIs w b S) {a : Addr} (ha : b ≠ a.block) (u : Value) : SetIs (w.setCell a u) b S := by
  obtain ⟨D, h1, h2⟩ := h
  exact ⟨D, h1.setCell ha u, h2⟩
/-- the first fields of a row of one's own -/
theorem own_prefix {w : World} {B gr cap n : Nat} {K R : List (Bs × Bs)} (h : w.ownsRow B 24 2 (.slice (some ⟨gr, 0, none⟩) n cap) n (fcells (K ++ R))) : w.ownsRow B 24 2 (.slice (some ⟨gr, 0, none⟩) K.length cap) K.length (fcells K) := by
  have hn : K.length ≤ n := by
    have := h.1
    rw [fcells_len, List.length_append] at this; omega
  refine ⟨fcells_len K, .inr ?_⟩
  rcases h.2 with ⟨hv, -⟩ | ⟨g, c, cur, hv, hb, hg, hnc, hcm, hcs, ht⟩
  · injection hv with e1; cases e1
  · simp only [Value.slice.injEq, Option.some.injEq, Addr.mk.injEq, and_true, true_and] at hv
    obtain ⟨rfl, rfl⟩ := hv
    refine ⟨gr, cap, cur, rfl, hb, hg, by omega, hcm, hcs, ?_⟩
    have e : cur.toList.take (K.length * 2) = (cur.toList.take (n * 2)).take (K.length * 2) := by rw [List.take_take, Nat.min_eq_left (by omega)]
    rw [e, ht, show fcells (K ++ R) = fcells K ++ fcells R by simp [fcells], List.take_left' (fcells_len K)]
theorem own_setCs {B gr cap n : Nat} {xs : List Value} {e : TypeId} {k : Nat} : ∀ {w : World}, w.ownsRow B e k (.slice (some ⟨gr, 0, none⟩) n cap) n xs → ∀ (vs : List Value) (o : Nat), xs.length ≤ o → (w.setCells gr o vs).ownsRow B e k (.slice (some ⟨gr, 0, none⟩) n cap) n xs
  | _, h, [], _, _ => h
  | w, h, v :: vs, o, ho => by
    have h1 := (h.stored o v).1
    rw [List.set_eq_of_length_le ho] at h1
    exact own_setCs h1 vs (o + 1) (by omega)

theorem findS_hit (S : List Bs) (l : List (Bs × Bs)) (h : l.findIdx (inS S) < l.length) : inS S (l.getD (l.findIdx (inS S)) ([], [])) = true := by
  have := List.findIdx_getElem (w := h)
  simpa [List.getD, h] using this
theorem findS_before (S : List Bs) (l : List (Bs × Bs)) : ∀ f ∈ l.take (l.findIdx (inS S)), inS S f = false := by
  intro f hf
  rw [List.mem_take_iff_getElem] at hf
  obtain ⟨j, hj, rfl⟩ := hf
  have := List.not_of_lt_findIdx (p := inS S) (xs := l) (i := j) (by omega)
  simpa using this
theorem findS_none (S : List Bs) (l : List (Bs × Bs)) (h : ¬ l.findIdx (inS S) < l.length) : ∀ f ∈ l, inS S f = false := by
  have : l.findIdx (inS S) = l.length := by
    have := List.findIdx_le_length (p := inS S) (xs := l); omega
  rwa [List.findIdx_eq_length] at this

/-- what DeleteFunc has done when it has gone through j fields and kept i -/
def HalfS (wr : World) (B gr cap : Nat) (S : List Bs) (l : List (Bs × Bs)) (i j : Nat) : Prop :=
  ∃ K R : List (Bs × Bs), K = wipe S (l.take j) ∧ K.length = i ∧ R.length = j - i ∧ wr.ownsRow B 24 2 (.slice (some ⟨gr, 0, none⟩) l.length cap) l.length (fcells (K ++ R ++ l.drop j))

def WipePost (B : Nat) (S : List Bs) (l : List (Bs × Bs)) (w : World) (e : Ending) (w' : World) : Prop :=
  ∃ v', e = .returned v' ∧ w'.ownsRow B 24 2 v' (wipe S l).length (fcells (wipe S l)) ∧ Below B w w'

set_option maxHeartbeats 8000000 in
set_option maxRecDepth 100000 in
theorem delw_any (v : Value) (l : List (Bs × Bs)) (S : List Bs) (g k0 B : Nat) (w : World) (ho : w.ownsRow B 24 2 v l.length (fcells l)) (hB : B ≤ w.heap.size) (hg : HasM w g k0 S) (hne : v.ownBlock ≠ some g) (hnk : v.ownBlock ≠ some k0)
    (hz : ∀ f ∈ l, f.1.length ≤ 1099511627776 ∧ f.2.length ≤ 1099511627776) (hl : l.length ≤ 1048576) :
    Calls Tryd.prog 46 #[v, setV g] w (WipePost B S l w) := by
  have HIx := indexS_any v g k0 S l w (isFlds_own ho) hg hz hl
  have HZ := Lib.hid hz
  have HO := Lib.hid ho
  have HG := Lib.hid hg
  by_cases hidx : l.findIdx (inS S) < l.length
  · obtain ⟨gr, cap, hgr, hcap, rfl⟩ : ∃ gr cap, B ≤ gr ∧ l.length ≤ cap ∧ v = .slice (some ⟨gr, 0, none⟩) l.length cap := by
      rcases ho.2 with ⟨hv, hn⟩ | ⟨gr, cap, cur, hv, hb, hg, hcap, -⟩
      · omega
      · exact ⟨gr, cap, hb, hcap, hv⟩
    have hgne : gr ≠ g := by intro e; subst e; exact hne rfl
    have hgnk : k0 ≠ gr := by intro e; subst e; exact hnk rfl
    have hix : idxS S l = (l.findIdx (inS S) : Int) := by unfold idxS; rw [if_pos hidx]
    rw [hix] at HIx
    have h1 := findS_hit S l hidx
    have h2 := findS_before S l
    clear hix ho hg hz hne hnk
    generalize l.findIdx (inS S) = i0 at *
    have htk : l.take (i0 + 1) = l.take i0 ++ [l.getD i0 ([], [])] := by
      rw [List.take_succ_eq_append_getElem hidx]; simp [List.getD, hidx]
    have hdr : l.drop i0 = l.getD i0 ([], []) :: l.drop (i0 + 1) := by rw [List.drop_eq_getElem_cons hidx]; simp [List.getD, hidx]
    have HH0 : Hid (∀ W, W.ownsRow B 24 2 (.slice (some ⟨gr, 0, none⟩) l.length cap) l.length (fcells l) → HalfS W B gr cap S l i0 (i0 + 1)) := by
      intro W hW
      refine ⟨l.take i0, [l.getD i0 ([], [])], ?_, by simp; omega, by simp, ?_⟩
      · rw [htk, wipe_snoc, h1, wipe_all S _ h2]; simp
      · rw [← htk, List.take_append_drop]; exact hW
    have HI2 := Lib.hid HIx
    have m1 : ¬ ((i0 : Int) = -1) := by omega
    have m2 : ((i0 : Int) == -1) = false := by simp [m1]
    clear HIx h1 h2 htk hdr
    unfold setV at HI2 ⊢
    go_enter Tryd.func46, Tryd.ntmps46
    go_wp2_with fail
    refine HI2.out.mono ?_
    rintro e w1 ⟨rfl, hb⟩
    have HB1 := Lib.hid (show Below B w w1 from hb.mono hB)
    have HG1 := Lib.hid (HG.out.later hb)
    have HO1 := Lib.hid (own_keep2f HO.out hb)
    clear hb
    go_wp2_with fail
    go_loopw [5, 6] (fun v5 v6 wr => ∃ i j : Nat, i < j ∧ j ≤ l.length ∧ v5 = .int .i64 i ∧ v6 = .int .i64 j ∧ Hid (HalfS wr B gr cap S l i j) ∧ Hid (Below B w wr) ∧ Hid (HasM wr g k0 S)) (fun _ v6 _ => l.length - (RowKit.intOf v6).toNat)
    case atStart => exact ⟨i0, i0 + 1, by omega, hidx, rfl, by go_num, HH0.out _ HO1.out, HB1, HG1⟩
    case round =>
      obtain ⟨i, j, hij, hj, rfl, rfl, HR, HB, HN⟩ := hrel
      rename World => W
      by_cases hlt : j < l.length
      · obtain ⟨K, R, hK, hKi, hRl, hoW⟩ := HR.out
        obtain ⟨z, R', rfl⟩ : ∃ z R', R = z :: R' := by
          cases R with
          | nil => simp at hRl; omega
          | cons z R' => exact ⟨z, R', rfl⟩
        have hdr : l.drop j = l.getD j ([], []) :: l.drop (j + 1) := by rw [List.drop_eq_getElem_cons hlt]; simp [List.getD, hlt]
        have htk : l.take (j + 1) = l.take j ++ [l.getD j ([], [])] := by
          rw [List.take_succ_eq_append_getElem hlt]; simp [List.getD, hlt]
        have hm := HZ.out (l.getD j ([], [])) (by simp [List.getD, hlt])
        rw [hdr] at hoW
        generalize l.getD j ([], []) = f at *
        generalize hD : l.drop (j + 1) = D at *
        obtain ⟨n, x⟩ := f
        simp only at hm
        have hat := fcells_mid (K ++ z :: R') (n, x) D
        have hKR : (K ++ z :: R').length = j := by rw [List.length_append, hRl]; omega
        rw [hKR] at hat
        have hc0 := hoW.cellAt (j * 2) (by omega)
        have hc1 := hoW.cellAt (j * 2 + 1) (by omega)
        rw [hat.1] at hc0
        rw [hat.2] at hc1
        have HC := fun W : World => fun h : HasM W g k0 S => without1_any g k0 S n x W h hm.1
        have HF0 := Lib.hid (Two.new W 24 (.string (mkS n)) (.string (mkS x)))
        have hb0 : Below W.heap.size W (W.alloc (Obj.cells #[.string (mkS n), .string (mkS x)] 24)) := (Below.refl _ _).alloc (Nat.le_refl _) _
        have HO2 := Lib.hid (own_keep2f hoW hb0)
        have HN2 := Lib.hid (HN.out.later hb0)
        have hBW : B ≤ W.heap.size := Nat.le_trans hB HB.out.size
        have HB2 := Lib.hid (HB.out.trans (hb0.mono hBW))
        have hq0 := HF0.out.c0
        have hq1 := HF0.out.c1
        have g0 : (0 : Int) ≤ (j : Int) := by omega
        have g1 : (j : Int) < (l.length : Int) := by omega
        have g2 : (0 : Int) ≤ (i : Int) := by omega
        have g3 : (i : Int) < (l.length : Int) := by omega
        have hs0 : B ≤ (W.alloc (Obj.cells #[.string (mkS n), .string (mkS x)] 24)).heap.size := by simp; omega
        have HTK := Lib.hid htk
        have HKK := Lib.hid hK
        have HKi := Lib.hid hKi
        have HRl := Lib.hid hRl
        have HD := Lib.hid hD
        clear hb0 hat hKR hoW htk hdr hK hRl hD
        cases hk : inS S (n, x)
        · rw [hk] at HC
          have hK2 : wipe S (l.take (j + 1)) = K ++ [(n, x)] := by rw [HTK.out, wipe_snoc, hk, ← HKK.out]; rfl
          have HK2 := Lib.hid hK2
          have HC2 := Lib.hid HC
          clear HC hk hK2
          go_wp2_with fail
          generalize W.alloc (Obj.cells #[.string (mkS n), .string (mkS x)] 24) = W4 at *
          generalize W.heap.size = gw at *
          refine (HC2.out _ HN2.out).mono ?_
          rintro e w5 ⟨rfl, hb⟩
          have ho5 := own_keep2f HO2.out hb
          have HB5 := Lib.hid (HB2.out.trans (hb.mono hs0))
          have HN5 := Lib.hid (HN2.out.later hb)
          have hF5 := HF0.out.later hb
          have q0 := hF5.c0
          have q1 := hF5.c1
          have k0 := ho5.cellAt (i * 2) (by omega)
          have k1 := ho5.cellAt (i * 2 + 1) (by omega)
          rw [show K ++ z :: R' ++ (n, x) :: D = K ++ z :: (R' ++ (n, x) :: D) by simp] at k0 k1 ho5
          have hmid := fcells_mid K z (R' ++ (n, x) :: D)
          rw [HKi.out] at hmid
          rw [hmid.1] at k0
          rw [hmid.2] at k1
          have f0 := ho5.frozenAt (i * 2)
          have f1 := ho5.frozenAt (i * 2 + 1)
          have HO5 := Lib.hid ho5
          have k2 : (w5.setCell ⟨gr, i * 2, none⟩ (.string (mkS n))).cell? ⟨gr, i * 2 + 1, none⟩ = some (.string (mkS z.2)) := by
            rw [World.cell?_setCell_other (w := w5) (a := ⟨gr, i * 2, none⟩) (b := ⟨gr, i * 2 + 1, none⟩) (h := by intro e; injection e with _ e2; omega)]; exact k1
          clear hb ho5 hmid hF5
          go_wp2_with fail
          have hst := own_put2 (a := K) HO5.out n x
          rw [HKi.out] at hst
          refine ⟨⟨i + 1, j + 1, by omega, hlt, by go_num, by go_num, ?_, ?_, ?_⟩, by simp [RowKit.intOf]; omega⟩
          · refine ⟨K ++ [(n, x)], R' ++ [(n, x)], HK2.out.symm, by rw [List.length_append, HKi.out]; rfl, ?_, ?_⟩
            · have := HRl.out
              simp at this ⊢; omega
            · rw [HD.out]
              simpa using hst
          · exact (HB5.out.setCell (p := ⟨gr, i * 2, none⟩) hgr _).setCell (p := ⟨gr, i * 2 + 1, none⟩) hgr _
          · refine ⟨?_, (HN5.out.2.setCell (a := ⟨gr, i * 2, none⟩) hgnk _).setCell (a := ⟨gr, i * 2 + 1, none⟩) hgnk _⟩
            rw [World.cell?_setCell_other (h := by intro e; injection e with e1 _; exact hgne e1), World.cell?_setCell_other (h := by intro e; injection e with e1 _; exact hgne e1)]
            exact HN5.out.1
        · rw [hk] at HC
          have hK2 : wipe S (l.take (j + 1)) = K := by rw [HTK.out, wipe_snoc, hk, ← HKK.out]; simp
          have HK2 := Lib.hid hK2
          have HC2 := Lib.hid HC
          clear HC hk hK2
          go_wp2_with fail
          generalize W.alloc (Obj.cells #[.string (mkS n), .string (mkS x)] 24) = W4 at *
          generalize W.heap.size = gw at *
          refine (HC2.out _ HN2.out).mono ?_
          rintro e w5 ⟨rfl, hb⟩
          have HO5 := Lib.hid (own_keep2f HO2.out hb)
          have HB5 := Lib.hid (HB2.out.trans (hb.mono hs0))
          have HN5 := Lib.hid (HN2.out.later hb)
          clear hb
          go_wp2_with fail
          refine ⟨⟨i, j + 1, by omega, hlt, rfl, by go_num, ?_, HB5, HN5⟩, by simp [RowKit.intOf]; omega⟩
          refine ⟨K, z :: R' ++ [(n, x)], HK2.out.symm, HKi.out, ?_, ?_⟩
          · have := HRl.out
            simp at this ⊢; omega
          · rw [HD.out]
            have := HO5.out
            simpa using this
      · obtain rfl : j = l.length := by omega
        obtain ⟨K, R, hK, hKi, hRl, hoW⟩ := HR.out
        rw [List.take_length] at hK
        have hcl : ∀ ty, (Builtin.clear_ #[26] ty #[.slice (some ⟨gr, i * 2, none⟩) (l.length - i) (cap - i)]).run Tryd.prog W = .ok (.tuple #[]) (W.setCells gr (i * 2) (zeros2 (l.length - i))) := fun ty =>
          run_clear2 W ty gr (i * 2) (l.length - i) (cap - i) (by omega) (fun t ht => by
            rw [hoW.cellAt (i * 2 + t) (by omega)]
            have : i * 2 + t < (fcells (K ++ R ++ l.drop l.length)).length := by rw [fcells_len]; simp; omega
            rw [List.getElem?_eq_getElem this]; rfl) (fun t _ => hoW.frozenAt _)
        have HOW := Lib.hid hoW
        have HK := Lib.hid hK
        have HKi := Lib.hid hKi
        have g2 : (0 : Int) ≤ (i : Int) := by omega
        have g3 : (i : Int) ≤ (l.length : Int) := by omega
        have g4 : (l.length : Int) ≤ (cap : Int) := by omega
        clear hoW hK hKi hRl
        go_wp2_with fail
        go_ret
        have hw := HOW.out
        refine ⟨_, rfl, ?_, below_setC hgr _ _ _ HB.out⟩
        rw [← HK.out]
        have hki := HKi.out
        subst hki
        rw [List.append_assoc] at hw
        exact own_setCs (own_prefix hw) _ _ (by rw [fcells_len]; exact Nat.le_refl _)
  · have hall := findS_none S l hidx
    have hix : idxS S l = -1 := by unfold idxS; rw [if_neg hidx]
    rw [hix] at HIx
    have HI2 := Lib.hid HIx
    have HA := Lib.hid (wipe_all S l hall)
    obtain ⟨a, cap, rfl⟩ : ∃ a cap, v = .slice a l.length cap := by obtain ⟨a, c, h, -⟩ := isFlds_own ho; exact ⟨a, c, h⟩
    clear hall hix HIx ho hg hz hidx
    unfold setV at HI2 ⊢
    go_enter Tryd.func46, Tryd.ntmps46
    go_wp2_with fail
    refine HI2.out.mono ?_
    rintro e w1 ⟨rfl, hb⟩
    have HB1 := Lib.hid (show Below B w w1 from hb.mono hB)
    have HF1 := Lib.hid (own_keep2f HO.out hb)
    clear hb
    go_wp2_with fail
    go_ret
    exact ⟨_, rfl, by rw [HA.out]; exact HF1.out, HB1.out⟩
end Tk
end Go.Proofs.YtcddkeekabafgaaDoor
namespace Go.Proofs.YtcddkeekabafgaaDoor
open Go.RowKit
namespace Tk

set_option maxHeartbeats 8000000 in
set_option maxRecDepth 100000 in
theorem flist_any (v : Value) (l : List (Bs × Bs)) (name : Bs) (w : World) (hs : IsFlds w v l) (hz : sumF l ≤ 1000000) (hn : name.length ≤ 1099511627776) (hl : l.length ≤ 1048576) :
    Calls Tryd.prog 44 #[v, .string (mkS name)] w (ListPost w.heap.size (listF l name) w) := by
  have HA := Lib.hid (fall_any v l name w hs (sum_each l (by omega)) hn hl)
  unfold ListPost at HA
  have hlist : listF l name = (allF l name).flatMap splitL := rfl
  have HLI := Lib.hid hlist
  have hpc := Lib.hid (fun p hp => Nat.le_trans (all_piece name l p hp) hz)
  have hfl := Lib.hid (fun i => flat_sub (allF l name) i)
  have hal := allF_len l name
  have hPl : (allF l name).length ≤ 1048576 := by omega
  have hln := listF_len name l
  rw [hlist] at hln
  have hln2 : ((allF l name).flatMap splitL).length ≤ 1000000 := by omega
  obtain ⟨a, cap, rfl⟩ : ∃ a cap, v = .slice a l.length cap := by obtain ⟨a, c, h, -⟩ := hs; exact ⟨a, c, h⟩
  clear hs hz hlist hln hal
  generalize listF l name = Q at *
  generalize allF l name = P at *
  go_enter Tryd.func44, Tryd.ntmps44
  go_wp2_with fail
  refine HA.out.mono ?_
  rintro e w1 ⟨v1, rfl, ho, hb⟩
  have HB1 := Lib.hid hb
  have HS := Lib.hid (isStrs_own ho)
  have HLt := Lib.hid (fun k e => (ho.lt k e).2)
  obtain ⟨a1, c1, rfl⟩ : ∃ a c, v1 = .slice a P.length c := by obtain ⟨a, c, h, -⟩ := isStrs_own ho; exact ⟨a, c, h⟩
  clear ho hb
  go_wp2_with fail
  go_loopw [5, 12] (fun v5 vi wr => ∃ i : Nat, i ≤ P.length ∧ vi = .int .i64 i ∧ Hid (wr.ownsRow w1.heap.size 9 1 v5 ((P.take i).flatMap splitL).length (strs ((P.take i).flatMap splitL))) ∧ Hid (Below w1.heap.size w1 wr)) (fun _ vi _ => P.length - (RowKit.intOf vi).toNat)
  case atStart => exact ⟨0, Nat.zero_le _, rfl, World.ownsRow_nil _ _ _ _, Below.refl _ _⟩
  case round =>
    obtain ⟨i, hi, rfl, HO, HB⟩ := hrel
    rename World => W
    by_cases hlt : i < P.length
    · obtain ⟨a', c', e', hc⟩ := isStrs_later HS.out HB.out HLt.out
      injection e' with e1 _ e2
      subst e1 e2
      obtain ⟨b, o, rfl, hc⟩ := hc i (P.getD i []) (by simp [List.getD, hlt])
      have hm := hpc.out (P.getD i []) (by simp [List.getD, hlt])
      have htk := take_flat P i hlt
      have HTK := Lib.hid htk
      have hf1 := hfl.out i
      have hsl := split_len (P.getD i [])
      clear htk
      generalize P.getD i [] = x at *
      have hxz := size_mkS x
      have hsp := fun W : World => split_any (mkS x) W (by omega)
      rw [bs_mkS] at hsp
      have HSP := Lib.hid hsp
      have g0 : (0 : Int) ≤ (i : Int) := by omega
      have g1 : (i : Int) < (P.length : Int) := by omega
      clear hsp hxz
      have hk1 : ((P.take i).flatMap splitL).length ≤ 1048576 := by omega
      have hk2 : (splitL x).length ≤ 1048576 := by omega
      generalize (P.take i).flatMap splitL = R at *
      generalize splitL x = S at *
      go_wp2_with fail
      refine (HSP.out _).mono ?_
      rintro e w3 ⟨v3, rfl, ho3, hb3⟩
      have HO3 := Lib.hid (own_keep HO.out hb3)
      have HB3 := Lib.hid (HB.out.trans (hb3.mono HB.out.size))
      have HS3 := Lib.hid ho3
      clear ho3 hb3
      go_wp2_with (at_builtin; refine join_guarded (by rfl) _ _ rfl w1.heap.size _ _ _ R S rfl rfl HO3.out HS3.out HB3.out.size hk1 hk2 ?_)
      intro v4 w4 ho4 hb4
      have HB4 := Lib.hid (HB3.out.trans hb4)
      have HO4 : Hid (w4.ownsRow w1.heap.size 9 1 v4 ((P.take (i + 1)).flatMap splitL).length (strs ((P.take (i + 1)).flatMap splitL))) := by
        show World.ownsRow _ _ _ _ _ _ _
        rw [HTK.out, List.length_append]; exact ho4
      clear ho4 hb4
      go_wp2_with fail
      exact ⟨⟨i + 1, hlt, by go_num, HO4, HB4⟩, by simp [RowKit.intOf]; omega⟩
    · have hil : P.take i = P := List.take_of_length_le (by omega)
      rw [hil, ← HLI.out] at HO
      have HBF := Lib.hid (HB1.out.trans (HB.out.mono HB1.out.size))
      have HOF := Lib.hid (World.ownsRow.mono HO.out HB1.out.size)
      go_wp2_with fail
      go_ret
      exact ⟨_, rfl, HOF.out, HBF.out⟩
end Tk
end Go.Proofs.YtcddkeekabafgaaDoor
namespace Go.Proofs.YtcddkeekabafgaaDoor
open Go.RowKit
namespace Tk

/-- what an operation's run must be: this value, and S behind it; a call: the same of its contract -/
def SureRun (P : Program) (S : World → Prop) (v : Value) : Result Next → Prop
  | .ok (.value u) w' => u = v ∧ S w'
  | .ok .skip w' => v = undef ∧ S w'
  | .ok (.enter f args) w' => Calls P f args w' fun e w'' => e = .returned v ∧ S w''
  | _ => False
/-- operation i; the flag of S says whether operation k (the one that turns S) has come up -/
def Sure (P : Program) (ops : Array Oper) (S : Bool → World → Prop) (k i : Nat) (o : Oper) (v : Value) (a : Act) : Prop :=
  (Region.wanted o (yielded ops a.tmps) = true ∧ ∀ b w, S b w → ((i == k) = true → b = false) → SureRun P (S (b || i == k)) v ((execOp a.eval o).run P w)) ∨
  (Region.wanted o (yielded ops a.tmps) = false ∧ v = undef ∧ (i == k) = false)

section
variable {P : Program} {ops : Array Oper} {Q : Exit → Act → World → Prop} {md : Region.Mode} {S : Bool → World → Prop} {k : Nat}

theorem SureRun.wp {T : World → Prop} {o : Oper} {v : Value} {a : Act} {w : World} {K : Act → World → Prop} (h : SureRun P T v ((execOp a.eval o).run P w)) (hK : ∀ w', T w' → K (a.put o.dst v) w') : o.wp P a w K Q := by
  unfold Oper.wp
  generalize (execOp a.eval o).run P w = r at *
  cases r with
  | halt x w' => exact h.elim
  | ok n w' =>
    cases n with
    | value u => obtain ⟨rfl, hs⟩ := h; exact hK _ hs
    | skip => obtain ⟨rfl, hs⟩ := h; exact hK _ hs
    | enter f args =>
      refine Calls.mono h fun e w'' he => ?_
      obtain ⟨rfl, hs⟩ := he
      exact hK _ hs
    | _ => exact h.elim
theorem Sure.wpOp {i : Nat} {o : Oper} {v : Value} {a : Act} {b : Bool} (hi : ops[i]? = some o) (hy : Sure P ops S k i o v a) {K : Act → World → Prop} {w : World} (hS : S b w) (hb : (i == k) = true → b = false)
    (h : ∀ w', S (b || i == k) w' → K (a.put o.dst v) w') : wpOp P ops Q i K a w := by
  unfold Go.wpOp
  simp only [hi]
  rcases hy with ⟨hw, hv⟩ | ⟨hw, rfl, hk⟩
  · simp only [hw, if_true]
    exact .inl ((hv b w hS hb).wp h)
  · simp only [hw, Bool.false_eq_true, if_false]
    exact h w (by rw [hk, Bool.or_false]; exact hS)
theorem Sure.of_same {i : Nat} {o : Oper} {v : Value} {a a' : Act} (hy : Sure P ops S k i o v a) (he : execOp a'.eval o = execOp a.eval o) (hw : Region.wanted o (yielded ops a'.tmps) = Region.wanted o (yielded ops a.tmps)) : Sure P ops S k i o v a' := by
  unfold Sure at *
  rw [he, hw]
  exact hy

/-- A walk in one order. -/
inductive Plan (P : Program) (md : Region.Mode) (ops : Array Oper) (Q : Exit → Act → World → Prop) (S : Bool → World → Prop) (k : Nat) : Nat → Array Bool → Act → Prop
  | fin {n : Nat} {listed : Array Bool} {a : Act} (hr : Region.ready md ops listed = []) (h : ∀ w, S (listed.getD k false) w → Q .normal a w) : Plan P md ops Q S k n listed a
  | step {n : Nat} {listed : Array Bool} {a : Act} {i : Nat} {oi : Oper} {v : Value} (hi : ops[i]? = some oi) (hr : i ∈ Region.ready md ops listed)
      (hfree : ∀ j oj, ops[j]? = some oj → j ≠ i → listed.getD j true = false → (∀ e ∈ oj.after, Region.binds md e = true → e.on ≠ i) → oi.apart ops oj = true)
      (hy : Sure P ops S k i oi v a) (h : Plan P md ops Q S k n (listed.setIfInBounds i true) (a.put oi.dst v)) : Plan P md ops Q S k (n + 1) listed a

theorem Plan.other (hsel : ∀ (j : Nat) (o : Oper) cs b, ops[j]? = some o → o.op ≠ .select cs b) {n : Nat} {listed : Array Bool} {a : Act} (h : Plan P md ops Q S k n listed a) :
    ∀ j, j ∈ Region.ready md ops listed → ∃ m oj v, n = m + 1 ∧ ops[j]? = some oj ∧ Sure P ops S k j oj v a ∧ Plan P md ops Q S k m (listed.setIfInBounds j true) (a.put oj.dst v) := by
  induction h with
  | fin hr h => intro j hj; rw [hr] at hj; cases hj
  | @step n listed a i oi v hi hr hfree hy h ih =>
    intro j hj
    by_cases hji : j = i
    · subst hji; exact ⟨n, oi, v, rfl, hi, hy, h⟩
    · obtain ⟨m, oj, u, rfl, hoj, hyj, hpl⟩ := ih j (ready_mono hj hji)
      obtain ⟨hjun, oj', hoj', hall⟩ := mem_ready.1 hj
      obtain rfl : oj' = oj := Option.some.inj (hoj'.symm.trans hoj)
      have hnot : ∀ e ∈ oj'.after, Region.binds md e = true → e.on ≠ i := fun e he hb heq => by
        have h1 := hall e he hb
        have h0 := (mem_ready.1 hr).1
        rw [heq] at h1
        rcases Nat.lt_or_ge i listed.size with h' | h'
        · simp [h'] at h0 h1; rw [h0] at h1; cases h1
        · simp [Array.getElem?_eq_none h'] at h1
      obtain ⟨a1, a2, a3⟩ := Oper.apart_spec (hfree j oj' hoj hji hjun hnot)
      have hfree' : ∀ k ok, ops[k]? = some ok → k ≠ i → (listed.setIfInBounds j true).getD k true = false →
          (∀ e ∈ ok.after, Region.binds md e = true → e.on ≠ i) → oi.apart ops ok = true := fun k ok hk hki hun hno => by
        refine hfree k ok hk hki ?_ hno
        by_cases hjk : j = k
        · subst hjk; exact hjun
        · rw [getD_set_ne true hjk] at hun; exact hun
      have hpl2 : Plan P md ops Q S k m ((listed.setIfInBounds j true).setIfInBounds i true) ((a.put oj'.dst u).put oi.dst v) := by
        rw [Array.setIfInBounds_comm _ _ hji, Act.put_comm a u v (fun d hd he => a2 d he hd)]
        exact hpl
      refine ⟨m + 1, oj', u, rfl, hoj, hyj.of_same (execOp_put oj' (fun cs b => hsel j oj' cs b hoj) a oi.dst v a1).symm (wanted_put oj' a oi.dst v a1).symm, ?_⟩
      exact Plan.step hi (ready_mono hr (Ne.symm hji)) hfree' (hy.of_same (execOp_put oi (fun cs b => hsel i oi cs b hi) a oj'.dst u a3) (wanted_put oi a oj'.dst u a3)) hpl2

theorem flag_set {listed : Array Bool} {j : Nat} (h : listed.getD j true = false) : (listed.setIfInBounds j true).getD k false = (listed.getD k false || j == k) := by
  by_cases e : j = k
  · subst e
    have hlt : j < listed.size := by
      rcases Nat.lt_or_ge j listed.size with h' | h'
      · exact h'
      · simp [Array.getElem?_eq_none h'] at h
    simp [hlt]
  · rw [getD_set_ne false e]; simp [e]
theorem plan_any (hsel : ∀ (j : Nat) (o : Oper) cs b, ops[j]? = some o → o.op ≠ .select cs b) : ∀ (n : Nat) (listed : Array Bool) (a : Act) (w : World), Plan P md ops Q S k n listed a → S (listed.getD k false) w → wpAny P md ops Q n listed a w := by
  intro n
  induction n with
  | zero =>
    intro listed a w h hS
    cases h with
    | fin hr h => exact ⟨hr, h w hS⟩
  | succ n ih =>
    intro listed a w h hS
    refine ⟨fun hr => ?_, fun j hj => ?_⟩
    · cases h with
      | fin _ h => exact h w hS
      | step _ hr2 => rw [hr] at hr2; cases hr2
    · obtain ⟨m, oj, v, hn, hoj, hy, hp⟩ := h.other hsel j hj
      obtain rfl : n = m := by omega
      have hun := (mem_ready.1 hj).1
      refine hy.wpOp hoj hS (fun e => ?_) fun w' hw' => ih _ _ w' hp (by rw [flag_set hun]; exact hw')
      have e2 : j = k := by simpa using e
      subst e2
      rcases Nat.lt_or_ge j listed.size with h' | h'
      · simpa [h'] using hun
      · simp [Array.getElem?_eq_none h']
end

section
variable {P : Program} {ops : Array Oper} {Q : Exit → Act → World → Prop} {S : Bool → World → Prop} {k : Nat}
/-- THE BEGINNING: S of the world behind the draw. -/
theorem wp_plan (S : Bool → World → Prop) (k : Nat) {id : Nat} {a : Act} {w : World} (hm : P.follows .mixedOrders = true) (hs : Region.noSelect ops = true) (hS : S false w.drew) (hk : (Array.replicate ops.size false).getD k false = false)
    (h : Plan P .any ops Q S k ops.size (Array.replicate ops.size false) a) : (Code.region id ops true).wp P Q a w :=
  wp_region_any hm (plan_any (Region.noSelect_spec hs) _ _ _ _ h (by rw [hk]; exact hS))
/-- NUMBER i NEXT. -/
theorem plan_take {n : Nat} {listed : Array Bool} {a : Act} {i : Nat} {oi : Oper} {v : Value} (hi : ops[i]? = some oi) (hf : Region.free .any ops listed i = true) (hr : (Region.ready .any ops listed).contains i = true)
    (hy : Sure P ops S k i oi v a) (h : Plan P .any ops Q S k n (listed.setIfInBounds i true) (a.put oi.dst v)) : Plan P .any ops Q S k (n + 1) listed a :=
  Plan.step hi (by simpa using hr) (Region.free_spec hi hf) hy h
/-- it yields a value and leaves the world -/
theorem plan_val {n : Nat} {listed : Array Bool} {a : Act} {i : Nat} {oi : Oper} {v : Value} (hi : ops[i]? = some oi) (hf : Region.free .any ops listed i = true) (hr : (Region.ready .any ops listed).contains i = true)
    (hk : (i == k) = false) (hw : Region.wanted oi (yielded ops a.tmps) = true) (hy : ∀ b w, S b w → (execOp a.eval oi).run P w = .ok (.value v) w)
    (h : Plan P .any ops Q S k n (listed.setIfInBounds i true) (a.put oi.dst v)) : Plan P .any ops Q S k (n + 1) listed a :=
  plan_take hi hf hr (.inl ⟨hw, fun b w hS _ => by rw [hy b w hS, hk, Bool.or_false]; exact ⟨rfl, hS⟩⟩) h
/-- it is guarded off -/
theorem plan_off {n : Nat} {listed : Array Bool} {a : Act} {i : Nat} {oi : Oper} (hi : ops[i]? = some oi) (hf : Region.free .any ops listed i = true) (hr : (Region.ready .any ops listed).contains i = true)
    (hk : (i == k) = false) (hw : Region.wanted oi (yielded ops a.tmps) = false) (h : Plan P .any ops Q S k n (listed.setIfInBounds i true) (a.put oi.dst undef)) : Plan P .any ops Q S k (n + 1) listed a :=
  plan_take hi hf hr (.inr ⟨hw, rfl, hk⟩) h
/-- a call -/
theorem plan_call {n : Nat} {listed : Array Bool} {a : Act} {i : Nat} {oi : Oper} {v : Value} (f : FuncId) (args : Array Value) (hi : ops[i]? = some oi) (hf : Region.free .any ops listed i = true) (hr : (Region.ready .any ops listed).contains i = true)
    (hk : (i == k) = false) (hw : Region.wanted oi (yielded ops a.tmps) = true) (he : ∀ w, (execOp a.eval oi).run P w = .ok (.enter f args) w) (hy : ∀ b w, S b w → Calls P f args w fun e w' => e = .returned v ∧ S b w')
    (h : Plan P .any ops Q S k n (listed.setIfInBounds i true) (a.put oi.dst v)) : Plan P .any ops Q S k (n + 1) listed a :=
  plan_take hi hf hr (.inl ⟨hw, fun b w hS _ => by rw [he w, hk, Bool.or_false]; exact hy b w hS⟩) h
/-- the store that turns S -/
theorem plan_store {n : Nat} {listed : Array Bool} {a : Act} {oi : Oper} (hi : ops[k]? = some oi) (hf : Region.free .any ops listed k = true) (hr : (Region.ready .any ops listed).contains k = true)
    (hw : Region.wanted oi (yielded ops a.tmps) = true) (hy : ∀ w, S false w → ∃ w', (execOp a.eval oi).run P w = .ok .skip w' ∧ S true w')
    (h : Plan P .any ops Q S k n (listed.setIfInBounds k true) (a.put oi.dst undef)) : Plan P .any ops Q S k (n + 1) listed a :=
  plan_take hi hf hr (.inl ⟨hw, fun b w hS hb => by
    obtain rfl := hb (by simp)
    obtain ⟨w', h1, h2⟩ := hy w hS
    rw [h1]
    refine ⟨rfl, ?_⟩
    simpa using h2⟩) h
end
end Tk
end Go.Proofs.YtcddkeekabafgaaDoor
namespace Go.Proofs.YtcddkeekabafgaaDoor
open Go.RowKit
namespace Tk

theorem opts_any (v : Value) (l : List (Bs × Bs)) (w : World) (hs : IsFlds w v l) (hz : sumF l ≤ 1000000) (hl : l.length ≤ 1048576) :
    Calls Tryd.prog 31 #[v] w (ListPost w.heap.size (listF l cnB) w) := by
  have HL := Lib.hid (flist_any v l cnB w hs hz (by decide) hl)
  unfold ListPost at HL ⊢
  clear hs
  go_enter Tryd.func31, Tryd.ntmps31
  go_wp2_with fail
  refine HL.out.mono ?_
  rintro e w1 ⟨v', rfl, ho, hb⟩
  have HO := Lib.hid ho
  have HB := Lib.hid hb
  clear ho hb
  go_wp2_with fail
  go_ret
  exact ⟨v', rfl, HO.out, HB.out⟩

theorem gone_len (l : List (Bs × Bs)) : (hopL ++ (listF l cnB).map lowL).length ≤ 7 + sumF l := by
  have := listF_len cnB l
  rw [List.length_append, List.length_map]
  show 7 + _ ≤ _
  omega

/-- what a round of the copying loop keeps -/
def Cpy (B g gr cap : Nat) (K : List (Bs × Bs)) (f : Bs × Bs) (W w' : World) : Prop :=
  w'.ownsRow B 24 2 (.slice (some ⟨gr, 0, none⟩) K.length cap) K.length (fcells K) ∧ Below B W w' ∧ Two w' g 24 (.string (mkS f.1)) (.string (mkS f.2))

set_option maxHeartbeats 16000000 in
set_option maxRecDepth 100000 in
theorem without_any (v vm : Value) (l : List (Bs × Bs)) (more : List Bs) (w : World) (hs : IsFlds w v l) (hnl : ∀ n c, v = .slice none n c → c = 0) (hm : IsStrs w vm more) (hvm : ∀ k, vm.ownBlock = some k → k < w.heap.size)
    (hmz : ∀ x ∈ more, x.length ≤ 1099511627776) (hml : more.length ≤ 1000) (hz : sumF l ≤ 1000000) (hl : l.length ≤ 1048576) :
    Calls Tryd.prog 33 #[v, vm] w (OwnPost (withL more l) w) := by
  have hz2 := sum_each l (by omega)
  have HA := Lib.hid (always_any w)
  have hlen0 := gone_len l
  have hq := listF_len cnB l
  have hgs : goneS more l = hopL ++ (listF l cnB).map lowL ++ more.map lowL := rfl
  have hwl : withL more l = wipe (goneS more l) l := rfl
  have HOpt : Hid (∀ (W : World) (g b : Nat), Below w.heap.size w W → HasM W g b hopL → Calls Tryd.prog 31 #[v] W fun e w' => ∃ v', e = .returned v' ∧ w'.cell? ⟨g, 0, none⟩ = some (.map (some b)) ∧ Below w.heap.size w w' ∧ SetIs w' b hopL ∧ IsStrs w' v' (listF l cnB) ∧ v'.ownBlock ≠ some b) := by
    intro W g b hb hM
    refine (opts_any v l W (isFlds_below hs hb) hz hl).mono ?_
    rintro e w' ⟨v', rfl, ho, hb'⟩
    have hM' := hM.later hb'
    refine ⟨v', rfl, hM'.1, hb.trans (hb'.mono hb.size), hM'.2, isStrs_own ho, fun e => ?_⟩
    have := (ho.lt b e).1
    have := hM.2.lt
    omega
  have HAdd : Hid (∀ (W : World) (g b : Nat) (v' : Value), w.heap.size ≤ b → g ≠ b → Below w.heap.size w W → W.cell? ⟨g, 0, none⟩ = some (.map (some b)) → SetIs W b hopL → IsStrs W v' (listF l cnB) → v'.ownBlock ≠ some b →
      Calls Tryd.prog 30 #[.map (some b), v'] W fun e w' => e = .returned (.tuple #[]) ∧ w'.cell? ⟨g, 0, none⟩ = some (.map (some b)) ∧ Below w.heap.size w w' ∧ SetIs w' b (hopL ++ (listF l cnB).map lowL)) := by
    intro W g b v' hbb hgb hb hc hS hv hn
    refine (add_any b hopL (listF l cnB) v' W hS hv hn (fun x hx => by have := listF_piece cnB l x hx; omega) (by omega) (by decide)).mono ?_
    rintro e w' ⟨rfl, h1, h2⟩
    exact ⟨rfl, h2.cell hc (by intro e; injection e with e; exact hgb e), hb.trans (below_of_set h2 hbb hb.size), h1⟩
  have HMor : Hid (∀ (W : World) (g b : Nat), w.heap.size ≤ b → g ≠ b → Below w.heap.size w W → W.cell? ⟨g, 0, none⟩ = some (.map (some b)) → SetIs W b (hopL ++ (listF l cnB).map lowL) →
      Calls Tryd.prog 30 #[.map (some b), vm] W fun e w' => e = .returned (.tuple #[]) ∧ HasM w' g b (goneS more l) ∧ Below w.heap.size w w') := by
    intro W g b hbb hgb hb hc hS
    refine (add_any b _ more vm W hS (isStrs_later hm hb hvm) (fun e => by have := hvm b e; omega) hmz (by omega) (by omega)).mono ?_
    rintro e w' ⟨rfl, h1, h2⟩
    exact ⟨rfl, ⟨h2.cell hc (by intro e; injection e with e; exact hgb e), by rw [hgs]; exact h1⟩, hb.trans (below_of_set h2 hbb hb.size)⟩
  have HCl : Hid (∀ (W : World), Below w.heap.size w W → Calls Tryd.prog 47 #[v] W (OwnPost l W)) := fun W hb => sclone_any v l W (isFlds_below hs hb) hnl hl
  have HDel : Hid (∀ (W : World) (v1 : Value) (g b B : Nat), W.ownsRow B 24 2 v1 l.length (fcells l) → B ≤ W.heap.size → HasM W g b (goneS more l) → v1.ownBlock ≠ some g → v1.ownBlock ≠ some b →
      Calls Tryd.prog 46 #[v1, setV g] W (WipePost B (goneS more l) l W)) := fun W v1 g b B ho hB hM h1 h2 => delw_any v1 l (goneS more l) g b B W ho hB hM h1 h2 hz2 hl
  have HWL := Lib.hid hwl
  have hzk : ∀ f ∈ withL more l, f.1.length ≤ 1099511627776 ∧ f.2.length ≤ 1099511627776 := fun f hf => hz2 f (wipe_mem _ _ _ hf).1
  have HZK := Lib.hid hzk
  have hlk : (withL more l).length ≤ 1048576 := Nat.le_trans (wipe_len _ _) hl
  obtain ⟨a, cap, rfl⟩ : ∃ a cap, v = .slice a l.length cap := by obtain ⟨a, c, h, -⟩ := hs; exact ⟨a, c, h⟩
  obtain ⟨am, nm, cm, rfl⟩ : ∃ a n c, vm = .slice a n c := by obtain ⟨a, c, h, -⟩ := hm; exact ⟨a, _, c, h⟩
  unfold OwnPost at HCl ⊢
  unfold WipePost at HDel
  clear hs hnl hm hvm hmz hml hz hlen0 hq hgs hwl hz2 hzk
  generalize goneS more l = G at *
  generalize hopL ++ (listF l cnB).map lowL = G1 at *
  generalize listF l cnB = Q at *
  unfold setV at HDel
  go_enter Tryd.func33, Tryd.ntmps33
  go_wp2_with fail
  refine HA.out.mono ?_
  rintro e w1 ⟨rfl, h1, hb⟩
  have hb1 : Below w1.heap.size w1 (w1.alloc (Obj.cells #[.map (some w.heap.size)] 51)) := (Below.refl _ _).alloc (Nat.le_refl _) _
  have HS1 := Lib.hid (h1.later hb1)
  have HB1 := Lib.hid (hb.trans (hb1.mono hb.size))
  have HC1 : Hid ((w1.alloc (Obj.cells #[.map (some w.heap.size)] 51)).cell? ⟨w1.heap.size, 0, none⟩ = some (.map (some w.heap.size))) := by
    rw [Lib.cell_of_heap (heap_alloc_last w1 _)]; rfl
  have hgb : w1.heap.size ≠ w.heap.size := by have := h1.lt; omega
  have hgz : w1.heap.size < (w1.alloc (Obj.cells #[.map (some w.heap.size)] 51)).heap.size := by simp
  clear h1 hb hb1 HA
  go_wp2_with fail
  generalize w1.alloc (Obj.cells #[.map (some w.heap.size)] 51) = w2 at *
  generalize w1.heap.size = g at *
  have hq1 : w2.cell? ⟨g, 0, none⟩ = some (.map (some w.heap.size)) := HC1.out
  have hB2d : Below w.heap.size w w2.drew := HB1.out.drew
  have hc2d : w2.drew.cell? ⟨g, 0, none⟩ = some (.map (some w.heap.size)) := HC1.out
  have hs2d : SetIs w2.drew w.heap.size hopL := HS1.out
  go_region_held3 (fun w' => w'.cell? ⟨g, 0, none⟩ = some (.map (some w.heap.size))) (first | go_keep | exact (by assumption)) (first
    | (go_at_call 31; refine (HOpt.out _ g w.heap.size (by assumption) ⟨by assumption, by assumption⟩).mono ?_; rintro e w' ⟨v', rfl, hc', hb', hs', hv', hn'⟩)
    | (go_at_call 30; refine (HAdd.out _ g w.heap.size _ (Nat.le_refl _) hgb (by assumption) (by assumption) (by assumption) (by assumption) (by assumption)).mono ?_; rintro e w5 ⟨rfl, hc5, hb5, hs5⟩))
  go_ways
  have HB5 := Lib.hid hb5
  have HC5 := Lib.hid hc5
  have HS5 := Lib.hid hs5
  have hsz5 := hb5.size
  clear hc' hb' hs' hv' hn' hb5 hc5 hs5 hB2d hc2d hs2d hq1
  have hq5 : w5.cell? ⟨g, 0, none⟩ = some (.map (some w.heap.size)) := HC5.out
  have HM5 := Lib.hid (HMor.out w5 g w.heap.size (Nat.le_refl _) hgb HB5.out HC5.out HS5.out)
  go_wp2_with fail
  refine HM5.out.mono ?_
  rintro e w6 ⟨rfl, hM, hb⟩
  have HM6 := Lib.hid hM
  have HB6 := Lib.hid hb
  have HC6 := Lib.hid (HCl.out w6 hb)
  have hsz6 := hb.size
  have hg6 : g < w6.heap.size := cell_lt (p := ⟨g, 0, none⟩) hM.1
  have hw6 : w.heap.size < w6.heap.size := hM.2.lt
  clear hM hb hq5
  go_wp2_with fail
  refine HC6.out.mono ?_
  rintro e w7 ⟨v7, rfl, ho, hb⟩
  have HM7 := Lib.hid (HM6.out.later hb)
  have HD7 := Lib.hid (HDel.out w7 v7 g w.heap.size w.heap.size (own_base ho hsz6) (Nat.le_trans hsz6 hb.size) HM7.out (fun e => by have := (ho.lt g e).1; omega) (fun e => by have := (ho.lt _ e).1; omega))
  have HB7 := Lib.hid (HB6.out.trans (hb.mono hsz6))
  clear ho hb
  go_wp2_with fail
  refine HD7.out.mono ?_
  rintro e w8 ⟨v8, rfl, ho, hb⟩
  have HB8 := Lib.hid (HB7.out.trans hb)
  rw [← HWL.out] at ho
  have HO8 := Lib.hid ho
  obtain ⟨a8, c8, rfl⟩ : ∃ a c, v8 = .slice a (withL more l).length c := by obtain ⟨a, c, h, -⟩ := isFlds_own ho; exact ⟨a, c, h⟩
  clear ho hb HDel HCl HMor HAdd HOpt HD7 HC6 HM5 HM7 HM6 HWL
  generalize hKK : withL more l = K at *
  have HKK := Lib.hid hKK
  clear hKK
  go_wp2_with fail
  go_loopw [23] (fun vi wr => ∃ i : Nat, i ≤ K.length ∧ vi = .int .i64 i ∧ Hid (wr.ownsRow w.heap.size 24 2 (.slice a8 K.length c8) K.length (fcells K)) ∧ Hid (Below w.heap.size w wr)) (fun vi _ => K.length - (RowKit.intOf vi).toNat)
  case atStart => exact ⟨0, Nat.zero_le _, rfl, HO8, HB8⟩
  case round =>
    obtain ⟨i, hi, rfl, HO, HB⟩ := hrel
    rename World => W
    by_cases hlt : i < K.length
    · obtain ⟨gr, hgr, rfl⟩ : ∃ gr, w.heap.size ≤ gr ∧ a8 = some ⟨gr, 0, none⟩ := by
        rcases HO.out.2 with ⟨hv, hn⟩ | ⟨gr, cap, cur, hv, hb, -⟩
        · omega
        · injection hv with e1 e2 e3
          exact ⟨gr, hb, e1⟩
      have hm := HZK.out (K.getD i ([], [])) (by simp [List.getD, hlt])
      have hget := fcells_get K i (K.getD i ([], [])) (by simp [List.getD, hlt])
      have hset : ((fcells K).set (i * 2) (.string (mkS (K.getD i ([], [])).1))).set (i * 2 + 1) (.string (mkS (K.getD i ([], [])).2)) = fcells K := by
        apply List.ext_getElem?
        intro j
        rw [List.getElem?_set, List.getElem?_set]
        have hlc := fcells_len K
        split
        · rename_i h; subst h; rw [hget.2]; simp; omega
        · split
          · rename_i h; subst h; rw [hget.1]; simp; omega
          · rfl
      have hk0 := HO.out.cellAt (i * 2) (by omega)
      have hk1 := HO.out.cellAt (i * 2 + 1) (by omega)
      rw [hget.1] at hk0
      rw [hget.2] at hk1
      have HSet := Lib.hid hset
      have HGet := Lib.hid hget
      clear hget hset
      generalize K.getD i ([], []) = f at *
      obtain ⟨n, x⟩ := f
      simp only at hm hk0 hk1
      have HF0 := Lib.hid (Two.new W 24 (.string (mkS n)) (.string (mkS x)))
      have hb0 : Below W.heap.size W (W.alloc (Obj.cells #[.string (mkS n), .string (mkS x)] 24)) := (Below.refl _ _).alloc (Nat.le_refl _) _
      have HO1 := Lib.hid (own_keep2f HO.out hb0)
      have HB1 := Lib.hid (HB.out.trans (hb0.mono HB.out.size))
      have g0 : (0 : Int) ≤ (i : Int) := by omega
      have g1 : (i : Int) < (K.length : Int) := by omega
      have hs0 : w.heap.size ≤ (W.alloc (Obj.cells #[.string (mkS n), .string (mkS x)] 24)).heap.size := hb0.size |> Nat.le_trans HB.out.size
      have hne : W.heap.size ≠ gr := by have := (HO.out.lt gr rfl).2; omega
      clear hb0
      go_wp2_with fail
      generalize W.alloc (Obj.cells #[.string (mkS n), .string (mkS x)] 24) = W4 at *
      generalize W.heap.size = g5 at *
      have HC1 : Hid (∀ w', Cpy w.heap.size g5 gr c8 K (n, x) W4 w' → Calls Tryd.prog 26 #[.string (mkS n)] w' fun e w'' => e = .returned (.string (mkS n)) ∧ Cpy w.heap.size g5 gr c8 K (n, x) W4 w'') := by
        rintro w' ⟨h1, h2, h3⟩
        refine (clone_any (mkS n) w' (by rw [size_mkS]; exact hm.1)).mono ?_
        rintro e w'' ⟨rfl, hb⟩
        exact ⟨rfl, own_keep2f h1 hb, h2.trans (hb.mono (Nat.le_trans hs0 h2.size)), h3.later hb⟩
      have HC2 : Hid (∀ w', Cpy w.heap.size g5 gr c8 K (n, x) W4 w' → Calls Tryd.prog 26 #[.string (mkS x)] w' fun e w'' => e = .returned (.string (mkS x)) ∧ Cpy w.heap.size g5 gr c8 K (n, x) W4 w'') := by
        rintro w' ⟨h1, h2, h3⟩
        refine (clone_any (mkS x) w' (by rw [size_mkS]; exact hm.2)).mono ?_
        rintro e w'' ⟨rfl, hb⟩
        exact ⟨rfl, own_keep2f h1 hb, h2.trans (hb.mono (Nat.le_trans hs0 h2.size)), h3.later hb⟩
      refine wp_plan (fun _ w' => Cpy w.heap.size g5 gr c8 K (n, x) W4 w') 10 (by kernel_rfl) (by kernel_rfl) ⟨HO1.out, (Below.refl _ _).drew, HF0.out⟩ rfl ?_
      refine plan_val (i := 0) (v := ?_) rfl (by kernel_rfl) (by kernel_rfl) (by rfl) (by kernel_rfl) (fun b w hSw => ?_) ?_
      case refine_2 => (go_simp; try with_reducible rfl)
      try simp only [Act.put, List.getElem_toArray, List.getElem_cons_zero, List.setIfInBounds_toArray, List.set_cons_zero, List.set_cons_succ]
      refine plan_val (i := 1) (v := ?_) rfl (by kernel_rfl) (by kernel_rfl) (by rfl) (by kernel_rfl) (fun b w hSw => ?_) ?_
      case refine_2 => (go_simp; try with_reducible rfl)
      try simp only [Act.put, List.getElem_toArray, List.getElem_cons_succ, List.getElem_cons_zero, List.setIfInBounds_toArray, List.set_cons_zero, List.set_cons_succ]
      refine plan_val (i := 2) (v := ?_) rfl (by kernel_rfl) (by kernel_rfl) (by rfl) (by kernel_rfl) (fun b w hSw => ?_) ?_
      case refine_2 => (go_simp; try with_reducible rfl)
      try simp only [Act.put, List.getElem_toArray, List.getElem_cons_succ, List.getElem_cons_zero, List.setIfInBounds_toArray, List.set_cons_zero, List.set_cons_succ]
      refine plan_val (i := 3) (v := ?_) rfl (by kernel_rfl) (by kernel_rfl) (by rfl) (by kernel_rfl) (fun b w hSw => ?_) ?_
      case refine_2 => (have q0 := hSw.2.2.c0; have q1 := hSw.2.2.c1; go_simp; try with_reducible rfl)
      try simp only [Act.put, List.getElem_toArray, List.getElem_cons_succ, List.getElem_cons_zero, List.setIfInBounds_toArray, List.set_cons_zero, List.set_cons_succ]
      refine plan_call (i := 4) (v := .string (mkS n)) 26 #[.string (mkS n)] rfl (by kernel_rfl) (by kernel_rfl) (by rfl) (by kernel_rfl) (fun w => ?_) (fun b w hSw => ?_) ?_
      case refine_1 => (go_simp; try with_reducible rfl)
      case refine_2 => (exact (HC1.out w hSw))
      try simp only [Act.put, List.getElem_toArray, List.getElem_cons_succ, List.getElem_cons_zero, List.setIfInBounds_toArray, List.set_cons_zero, List.set_cons_succ]
      refine plan_val (i := 5) (v := ?_) rfl (by kernel_rfl) (by kernel_rfl) (by rfl) (by kernel_rfl) (fun b w hSw => ?_) ?_
      case refine_2 => (go_simp; try with_reducible rfl)
      try simp only [Act.put, List.getElem_toArray, List.getElem_cons_succ, List.getElem_cons_zero, List.setIfInBounds_toArray, List.set_cons_zero, List.set_cons_succ]
      refine plan_val (i := 6) (v := ?_) rfl (by kernel_rfl) (by kernel_rfl) (by rfl) (by kernel_rfl) (fun b w hSw => ?_) ?_
      case refine_2 => (have q0 := hSw.2.2.c0; have q1 := hSw.2.2.c1; go_simp; try with_reducible rfl)
      try simp only [Act.put, List.getElem_toArray, List.getElem_cons_succ, List.getElem_cons_zero, List.setIfInBounds_toArray, List.set_cons_zero, List.set_cons_succ]
      refine plan_call (i := 7) (v := .string (mkS x)) 26 #[.string (mkS x)] rfl (by kernel_rfl) (by kernel_rfl) (by rfl) (by kernel_rfl) (fun w => ?_) (fun b w hSw => ?_) ?_
      case refine_1 => (go_simp; try with_reducible rfl)
      case refine_2 => (exact (HC2.out w hSw))
      try simp only [Act.put, List.getElem_toArray, List.getElem_cons_succ, List.getElem_cons_zero, List.setIfInBounds_toArray, List.set_cons_zero, List.set_cons_succ]
      refine plan_val (i := 8) (v := ?_) rfl (by kernel_rfl) (by kernel_rfl) (by rfl) (by kernel_rfl) (fun b w hSw => ?_) ?_
      case refine_2 => (go_simp; try with_reducible rfl)
      try simp only [Act.put, List.getElem_toArray, List.getElem_cons_succ, List.getElem_cons_zero, List.setIfInBounds_toArray, List.set_cons_zero, List.set_cons_succ]
      refine plan_val (i := 9) (v := ?_) rfl (by kernel_rfl) (by kernel_rfl) (by rfl) (by kernel_rfl) (fun b w hSw => ?_) ?_
      case refine_2 => (go_simp; try with_reducible rfl)
      try simp only [Act.put, List.getElem_toArray, List.getElem_cons_succ, List.getElem_cons_zero, List.setIfInBounds_toArray, List.set_cons_zero, List.set_cons_succ]
      refine plan_store rfl (by kernel_rfl) (by kernel_rfl) (by kernel_rfl) (fun w' hSw => ?_) ?_
      case refine_1 =>
        have k0 := hSw.1.cellAt (i * 2) (by omega)
        have k1 := hSw.1.cellAt (i * 2 + 1) (by omega)
        rw [HGet.out.1] at k0
        rw [HGet.out.2] at k1
        have f0 := hSw.1.frozenAt (i * 2)
        have f1 := hSw.1.frozenAt (i * 2 + 1)
        have k2 : (w'.setCell ⟨gr, i * 2, none⟩ (.string (mkS n))).cell? ⟨gr, i * 2 + 1, none⟩ = some (.string (mkS x)) := by
          rw [World.cell?_setCell_other (w := w') (a := ⟨gr, i * 2, none⟩) (b := ⟨gr, i * 2 + 1, none⟩) (h := by intro e; injection e with _ e2; omega)]; exact k1
        refine ⟨(w'.setCell ⟨gr, i * 2, none⟩ (.string (mkS n))).setCell ⟨gr, i * 2 + 1, none⟩ (.string (mkS x)), ?_, ?_⟩
        · go_simp
          try with_reducible rfl
        · have h1 := (hSw.1.stored (i * 2) (.string (mkS n))).1
          have h2 := (h1.stored (i * 2 + 1) (.string (mkS x))).1
          rw [HSet.out] at h2
          exact ⟨h2, (hSw.2.1.setCell (p := ⟨gr, i * 2, none⟩) hgr _).setCell (p := ⟨gr, i * 2 + 1, none⟩) hgr _, ((Below.heap_setCell _ _ _ _ hne).trans ((Below.heap_setCell _ _ _ _ hne).trans hSw.2.2))⟩
      try simp only [Act.put, List.getElem_toArray, List.getElem_cons_succ, List.getElem_cons_zero]
      refine Plan.fin (by kernel_rfl) (fun w5 hS5 => ?_)
      have HO5 := Lib.hid hS5.1
      have HB5 := Lib.hid (HB1.out.trans hS5.2.1)
      clear hS5
      go_wp2_with fail
      exact ⟨⟨i + 1, hlt, by go_num, HO5, HB5⟩, by simp [RowKit.intOf]; omega⟩
    · obtain rfl : i = K.length := by omega
      go_wp2_with fail
      go_ret
      refine ⟨_, rfl, ?_, HB.out⟩
      rw [HKK.out]
      exact HO.out

set_option maxHeartbeats 1000000 in
theorem strip_any (v : Value) (l : List (Bs × Bs)) (w : World) (hs : IsFlds w v l) (hnl : ∀ n c, v = .slice none n c → c = 0) (hz : sumF l ≤ 1000000) (hl : l.length ≤ 1048576) :
    Calls Tryd.prog 13 #[v] w (OwnPost (stripL l) w) := by
  have HW := Lib.hid (without_any v (.slice none 0 0) l [] w hs hnl ⟨none, 0, rfl, fun j t hj => by simp at hj⟩ (fun k e => by simp [Value.ownBlock] at e) (by simp) (by simp) hz hl)
  have HSt : Hid (stripL l = withL [] l) := rfl
  unfold OwnPost at HW ⊢
  clear hs hnl
  go_enter Tryd.func13, Tryd.ntmps13
  go_wp2_with fail
  refine HW.out.mono ?_
  rintro e w1 ⟨v', rfl, ho, hb⟩
  have HO := Lib.hid ho
  have HB := Lib.hid hb
  clear ho hb
  go_wp2_with fail
  go_ret
  refine ⟨v', rfl, ?_, HB.out⟩
  rw [HSt.out]
  exact HO.out
end Tk
end Go.Proofs.YtcddkeekabafgaaDoor
namespace Go.Proofs.YtcddkeekabafgaaDoor
open Go.RowKit
namespace Tk

theorem viaS_eq (minor : Int) (name : Bs) : (⟨#[49, 46]⟩ : ByteArray) ++ mkS (digI minor) ++ ⟨#[32]⟩ ++ mkS name = mkS (viaS minor name) := by
  rw [show (⟨#[49, 46]⟩ : ByteArray) = mkS [49, 46] from rfl, show (⟨#[32]⟩ : ByteArray) = mkS [32] from rfl, mkS_append, mkS_append, mkS_append]; rfl
theorem viaV_eq (j : Bs) (x : Bs) : mkS j ++ ⟨#[44, 32]⟩ ++ mkS x = mkS (j ++ [44, 32] ++ x) := by
  rw [show (⟨#[44, 32]⟩ : ByteArray) = mkS [44, 32] from rfl, mkS_append, mkS_append]

/-- what strconv.Itoa does -/
def ItoaAt (n : Int) (w : World) : Prop := Calls Tryd.prog 37 #[.int .i64 n] w fun e w' => e = .returned (.string (mkS (digI n))) ∧ Below w.heap.size w w'

set_option maxHeartbeats 4000000 in
set_option maxRecDepth 100000 in
theorem via_any (v : Value) (l : List (Bs × Bs)) (minor : Int) (name : Bs) (w : World) (hs : IsFlds w v l) (hz : sumF l ≤ 1000000) (hl : l.length ≤ 1048575) (hn : name.length ≤ 1000000) (hd : (digI minor).length ≤ 100) (HI0 : ItoaAt minor w) :
    Calls Tryd.prog 23 #[v, .int .i64 minor, .string (mkS name)] w (OwnPost (viaL l minor name) w) := by
  have HI := Lib.hid HI0
  have hsz1 : (mkS (digI minor)).size ≤ 100 := by rw [size_mkS]; exact hd
  have hsz2 : (mkS name).size ≤ 1000000 := by rw [size_mkS]; exact hn
  have hjl := joinB_le viB l
  have hsz3 : (mkS (joinB (allF l viB))).size ≤ 1000000 := by rw [size_mkS]; omega
  have HG : Hid (∀ W : World, Below w.heap.size w W → Calls Tryd.prog 38 #[v, .string ⟨#[86, 105, 97]⟩] W fun e w' => e = .returned (.tuple #[.string (mkS (joinB (allF l viB))), .bool (decide (0 < (allF l viB).length))]) ∧ Below W.heap.size W w') :=
    fun W hb => fget_any v l viB W (isFlds_below hs hb) (by omega) (by decide) (by omega)
  have hvs : (viaS minor name).length ≤ 1000103 := by unfold viaS; simp; omega
  have hST : ∀ (W : World) (x : Bs), Below w.heap.size w W → x.length ≤ 1099511627776 → Calls Tryd.prog 39 #[v, .string ⟨#[86, 105, 97]⟩, .string (mkS x)] W (OwnPost (setF viB x l) W) :=
    fun W x hb hx => fset_any v l viB x W (isFlds_below hs hb) (sum_each l (by omega)) (by decide) hx hl
  obtain ⟨a, cap, rfl⟩ : ∃ a cap, v = .slice a l.length cap := by obtain ⟨a, c, h, -⟩ := hs; exact ⟨a, c, h⟩
  unfold ItoaAt at HI
  by_cases hp : 0 < (allF l viB).length
  · have hv : viaL l minor name = setF viB (joinB (allF l viB) ++ [44, 32] ++ viaS minor name) l := by unfold viaL viaV; rw [if_pos hp]
    have HST : Hid (∀ W : World, Below w.heap.size w W → Calls Tryd.prog 39 #[.slice a l.length cap, .string ⟨#[86, 105, 97]⟩, .string (mkS (joinB (allF l viB)) ++ ⟨#[44, 32]⟩ ++ (⟨#[49, 46]⟩ ++ mkS (digI minor) ++ ⟨#[32]⟩ ++ mkS name))] W (OwnPost (viaL l minor name) W)) := by
      intro W hb
      rw [viaS_eq, viaV_eq, hv]
      exact hST W _ hb (by simp; omega)
    rw [decide_eq_true hp] at HG
    unfold OwnPost at HST ⊢
    clear hs hz hl hn hd HI0 hjl hvs hST hp hv
    generalize mkS (joinB (allF l viB)) = J at *
    generalize mkS (digI minor) = D at *
    generalize mkS name = N at *
    go_enter Tryd.func23, Tryd.ntmps23
    go_wp2_with fail
    refine HI.out.mono ?_
    rintro e w1 ⟨rfl, hb⟩
    have HB1 := Lib.hid hb
    have HG1 := Lib.hid (HG.out w1 hb)
    clear hb
    go_wp2_with fail
    refine HG1.out.mono ?_
    rintro e w2 ⟨rfl, hb⟩
    have hb2 := HB1.out.trans (hb.mono HB1.out.size)
    have HB2 := Lib.hid hb2
    have HS2 := Lib.hid (HST.out w2 hb2)
    clear hb hb2 HST HG HG1
    go_wp2_with fail
    refine HS2.out.mono ?_
    rintro e w3 ⟨v3, rfl, ho, hb⟩
    have HO3 := Lib.hid (own_base ho HB2.out.size)
    have HB3 := Lib.hid (HB2.out.trans (hb.mono HB2.out.size))
    clear ho hb
    go_wp2_with fail
    go_ret
    exact ⟨v3, rfl, HO3.out, HB3.out⟩
  · have hv : viaL l minor name = setF viB (viaS minor name) l := by unfold viaL viaV; rw [if_neg hp]
    have HST : Hid (∀ W : World, Below w.heap.size w W → Calls Tryd.prog 39 #[.slice a l.length cap, .string ⟨#[86, 105, 97]⟩, .string (⟨#[49, 46]⟩ ++ mkS (digI minor) ++ ⟨#[32]⟩ ++ mkS name)] W (OwnPost (viaL l minor name) W)) := by
      intro W hb
      rw [viaS_eq, hv]
      exact hST W _ hb (by omega)
    rw [decide_eq_false hp] at HG
    unfold OwnPost at HST ⊢
    clear hs hz hl hn hd HI0 hjl hvs hST hp hv
    generalize mkS (joinB (allF l viB)) = J at *
    generalize mkS (digI minor) = D at *
    generalize mkS name = N at *
    go_enter Tryd.func23, Tryd.ntmps23
    go_wp2_with fail
    refine HI.out.mono ?_
    rintro e w1 ⟨rfl, hb⟩
    have HB1 := Lib.hid hb
    have HG1 := Lib.hid (HG.out w1 hb)
    clear hb
    go_wp2_with fail
    refine HG1.out.mono ?_
    rintro e w2 ⟨rfl, hb⟩
    have hb2 := HB1.out.trans (hb.mono HB1.out.size)
    have HB2 := Lib.hid hb2
    have HS2 := Lib.hid (HST.out w2 hb2)
    clear hb hb2 HST HG HG1
    go_wp2_with fail
    refine HS2.out.mono ?_
    rintro e w3 ⟨v3, rfl, ho, hb⟩
    have HO3 := Lib.hid (own_base ho HB2.out.size)
    have HB3 := Lib.hid (HB2.out.trans (hb.mono HB2.out.size))
    clear ho hb
    go_wp2_with fail
    go_ret
    exact ⟨v3, rfl, HO3.out, HB3.out⟩
end Tk
end Go.Proofs.YtcddkeekabafgaaDoor
namespace Go.Proofs.YtcddkeekabafgaaDoor
open Go.RowKit
namespace Tk

/-- a message's cells -/
def msgC (M T : ByteArray) (s : Int) (R : ByteArray) (mi : Int) (vf : Value) (B : ByteArray) (vt : Value) : Array Value := #[.string M, .string T, .int .i64 s, .string R, .int .i64 mi, vf, .string B, vt]
/-- block g is a variable with these cells -/
def Box (w : World) (g : Nat) (T : TypeId) (cs : Array Value) : Prop := w.heap[g]? = some (.cells cs T (0, 0))
theorem Box.new (w : World) (T : TypeId) (cs : Array Value) : Box (w.alloc (.cells cs T)) w.heap.size T cs := heap_alloc_last w _
theorem Box.lt {w : World} {g : Nat} {T : TypeId} {cs : Array Value} (h : Box w g T cs) : g < w.heap.size := (Array.getElem?_eq_some_iff.1 h).1
theorem Box.later {w w' : World} {g : Nat} {T : TypeId} {cs : Array Value} (h : Box w g T cs) (hb : Below w.heap.size w w') : Box w' g T cs := (hb.block g h.lt).trans h
theorem Box.cell {w : World} {g : Nat} {T : TypeId} {cs : Array Value} (h : Box w g T cs) (i : Nat) (v : Value) (hv : cs[i]? = some v) : w.cell? ⟨g, i, none⟩ = some v := by rw [Lib.cell_of_heap h]; exact hv

theorem sum_wipe (S : List Bs) : ∀ l : List (Bs × Bs), sumF (wipe S l) ≤ sumF l
  | [] => by simp [wipe, sumF]
  | f :: t => by
    have ih := sum_wipe S t
    have e : wipe S (f :: t) = (if inS S f then [] else [f]) ++ wipe S t := by unfold wipe; cases h : inS S f <;> simp [h]
    rw [e]
    cases inS S f
    · simp [sumF]; omega
    · simp [sumF]; omega
theorem sum_app : ∀ a b : List (Bs × Bs), sumF (a ++ b) = sumF a + sumF b
  | [], b => by simp [sumF]
  | f :: t, b => by rw [List.cons_append, sumF, sumF, sum_app t b]; omega
theorem sum_kept (m : Bs) (l : List (Bs × Bs)) : sumF (keptL m l) ≤ sumF l + 8 := by
  have h1 := sum_wipe (goneS [clB] l) l
  have h2 := sum_wipe (goneS [clB, exB] l) l
  unfold keptL hosL withL
  split
  · omega
  · split
    · omega
    · rw [sum_app]
      show _ + 8 ≤ _
      omega
theorem len_kept (m : Bs) (l : List (Bs × Bs)) : (keptL m l).length ≤ l.length + 1 := by
  have h1 := wipe_len (goneS [clB] l) l
  have h2 := wipe_len (goneS [clB, exB] l) l
  unfold keptL hosL withL
  split
  · omega
  · split
    · omega
    · simp; omega
theorem isFlds_alloc {w : World} {v : Value} {l : List (Bs × Bs)} (h : IsFlds w v l) (o : Obj) : IsFlds (w.alloc o) v l := isFlds_below h ((Below.refl _ _).alloc (Nat.le_refl _) _)
theorem below_alloc (w : World) (o : Obj) : Below w.heap.size w (w.alloc o) := (Below.refl _ _).alloc (Nat.le_refl _) _

set_option maxHeartbeats 8000000 in
set_option maxRecDepth 100000 in
theorem kept_any (M T : ByteArray) (s : Int) (R : ByteArray) (mi : Int) (vf : Value) (B : ByteArray) (vt : Value) (l : List (Bs × Bs)) (w : World) (hs : IsFlds w vf l) (hnl : ∀ n c, vf = .slice none n c → c = 0) (hz : sumF l ≤ 900000) (hl : l.length ≤ 1048570) :
    Calls Tryd.prog 27 #[.agg (msgC M T s R mi vf B vt)] w (OwnPost (keptL (bs M) l) w) := by
  obtain ⟨a, cap, rfl⟩ : ∃ a cap, vf = .slice a l.length cap := by obtain ⟨a, c, h, -⟩ := hs; exact ⟨a, c, h⟩
  have HX := Lib.hid (Box.new w 28 (msgC M T s R mi (.slice a l.length cap) B vt))
  have HB0 := Lib.hid (below_alloc w (.cells (msgC M T s R mi (.slice a l.length cap) B vt) 28))
  have hsz0 : w.heap.size < (w.alloc (.cells (msgC M T s R mi (.slice a l.length cap) B vt) 28)).heap.size := by simp
  have HS := Lib.hid (fun (W : World) (hb : Below w.heap.size w W) => isFlds_below hs hb)
  have c0 : (w.alloc (.cells (msgC M T s R mi (.slice a l.length cap) B vt) 28)).cell? ⟨w.heap.size, 0, none⟩ = some (.string M) := HX.out.cell 0 _ rfl
  have c5 : (w.alloc (.cells (msgC M T s R mi (.slice a l.length cap) B vt) 28)).cell? ⟨w.heap.size, 5, none⟩ = some (.slice a l.length cap) := HX.out.cell 5 _ rfl
  have hs1 : (w.alloc (.cells (msgC M T s R mi (.slice a l.length cap) B vt) 28)).heap.size = w.heap.size + 1 := by simp
  clear hsz0
  have hwd : ∀ (W : World) (more : List Bs) (cs : Array Value) (n : Nat), Below w.heap.size w W → cs = (strs more).toArray → n = more.length → (∀ x ∈ more, x.length ≤ 1099511627776) → more.length ≤ 1000 →
      Calls Tryd.prog 33 #[.slice a l.length cap, .slice (some ⟨W.heap.size, 0, none⟩) n n] (W.alloc (.cells cs 9)) fun e w' => ∃ v', e = .returned v' ∧ w'.ownsRow w.heap.size 24 2 v' (withL more l).length (fcells (withL more l)) ∧ Below w.heap.size w w' := by
    intro W more cs n hb hcs hn hmz hml
    subst hn
    have hb1 := hb.alloc hb.size (.cells cs 9)
    refine (without_any _ _ l more _ (isFlds_below hs hb1) hnl (isStrs_lit W more cs _ _ hcs) (fun k e => ?_) hmz hml (by omega) (by omega)).mono ?_
    · injection e with e
      subst e; simp
    · rintro e w' ⟨v', rfl, ho, hb'⟩
      exact ⟨v', rfl, own_base ho hb1.size, hb1.trans (hb'.mono hb1.size)⟩
  unfold OwnPost
  by_cases hm : M = ⟨#[]⟩
  · subst hm
    have HK : Hid (keptL (bs ⟨#[]⟩) l = withL [clB] l) := by show keptL [] l = _; unfold keptL; rw [if_pos rfl]
    rw [HK.out]
    have HW : Hid (Calls Tryd.prog 33 #[.slice a l.length cap, .slice (some ⟨w.heap.size + 1, 0, none⟩) 1 1] ((w.alloc (.cells (msgC ⟨#[]⟩ T s R mi (.slice a l.length cap) B vt) 28)).alloc (.cells #[.string ⟨#[67, 111, 110, 116, 101, 110, 116, 45, 76, 101, 110, 103, 116, 104]⟩] 9)) fun e w' => ∃ v', e = .returned v' ∧ w'.ownsRow w.heap.size 24 2 v' (withL [clB] l).length (fcells (withL [clB] l)) ∧ Below w.heap.size w w') :=
      by have h := hwd _ [clB] _ 1 HB0.out rfl rfl (by decide) (by decide); rw [hs1] at h; exact h
    clear hwd hs hnl hz hl
    unfold msgC at *
    go_enter Tryd.func27, Tryd.ntmps27
    go_wp2_with fail
    refine HW.out.mono ?_
    rintro e w1 ⟨v1, rfl, ho, hb⟩
    have HO := Lib.hid ho
    have HB := Lib.hid hb
    clear ho hb
    go_wp2_with fail
    go_ret
    exact ⟨v1, rfl, HO.out, HB.out⟩
  · have hmb : bs M ≠ [] := fun e => hm (by rw [← mkS_bs M, e]; rfl)
    have hme : M.toList.isEmpty = false := by rw [toList_bs]; cases h : bs M with | nil => exact absurd h hmb | cons _ _ => rfl
    have HK : Hid (keptL (bs M) l = hosL (withL [clB, exB] l)) := by show keptL _ l = _; unfold keptL; rw [if_neg hmb]
    rw [HK.out]
    have HW : Hid (Calls Tryd.prog 33 #[.slice a l.length cap, .slice (some ⟨w.heap.size + 1, 0, none⟩) 2 2] ((w.alloc (.cells (msgC M T s R mi (.slice a l.length cap) B vt) 28)).alloc (.cells #[.string ⟨#[67, 111, 110, 116, 101, 110, 116, 45, 76, 101, 110, 103, 116, 104]⟩, .string ⟨#[69, 120, 112, 101, 99, 116]⟩] 9)) fun e w' => ∃ v', e = .returned v' ∧ w'.ownsRow w.heap.size 24 2 v' (withL [clB, exB] l).length (fcells (withL [clB, exB] l)) ∧ Below w.heap.size w w') :=
      by have h := hwd _ [clB, exB] _ 2 HB0.out rfl rfl (by decide) (by decide); rw [hs1] at h; exact h
    have hk1 : (withL [clB, exB] l).length ≤ 1048576 := Nat.le_trans (wipe_len _ _) (by omega)
    have hk2 : sumF (withL [clB, exB] l) ≤ 900000 := Nat.le_trans (sum_wipe _ _) hz
    clear hwd hs hnl hz hl hm hmb
    unfold msgC at *
    have hk3 : hosL (withL [clB, exB] l) = if 0 < (allF (withL [clB, exB] l) hoB).length then withL [clB, exB] l else withL [clB, exB] l ++ [(hoB, [])] := rfl
    have HK3 := Lib.hid hk3
    clear hk3 HK
    generalize withL [clB, exB] l = K at *
    have hG : ∀ (W : World) (v : Value), W.ownsRow w.heap.size 24 2 v K.length (fcells K) → Calls Tryd.prog 38 #[v, .string ⟨#[72, 111, 115, 116]⟩] W fun e w' => e = .returned (.tuple #[.string (mkS (joinB (allF K hoB))), .bool (decide (0 < (allF K hoB).length))]) ∧ Below W.heap.size W w' :=
      fun W v ho => fget_any v K hoB W (isFlds_own ho) (by omega) (by decide) hk1
    have HG := Lib.hid hG
    clear hG hk2
    by_cases hp : 0 < (allF K hoB).length
    · rw [if_pos hp] at HK3
      rw [decide_eq_true hp] at HG
      clear hp
      generalize mkS (joinB (allF K hoB)) = J at *
      rw [HK3.out]
      go_enter Tryd.func27, Tryd.ntmps27
      go_wp2_with fail
      refine HW.out.mono ?_
      rintro e w1 ⟨v1, rfl, ho, hb⟩
      have HO := Lib.hid ho
      have HB := Lib.hid hb
      clear ho hb
      go_wp2_with fail
      refine (HG.out _ _ HO.out).mono ?_
      rintro e w2 ⟨rfl, hb⟩
      have HO2 := Lib.hid (own_keep2f HO.out hb)
      have HB2 := Lib.hid (HB.out.trans (hb.mono HB.out.size))
      clear hb
      go_wp2_with fail
      go_ret
      exact ⟨v1, rfl, HO2.out, HB2.out⟩
    · rw [if_neg hp] at HK3
      rw [decide_eq_false hp] at HG
      clear hp
      generalize mkS (joinB (allF K hoB)) = J at *
      rw [HK3.out]
      go_enter Tryd.func27, Tryd.ntmps27
      go_wp2_with fail
      refine HW.out.mono ?_
      rintro e w1 ⟨v1, rfl, ho, hb⟩
      have HO := Lib.hid ho
      have HB := Lib.hid hb
      clear ho hb
      go_wp2_with fail
      refine (HG.out _ _ HO.out).mono ?_
      rintro e w2 ⟨rfl, hb⟩
      have ho2 := own_keep2f HO.out hb
      have hb2 := HB.out.trans (hb.mono HB.out.size)
      have hbal := below_alloc w2 (Obj.cells #[.string (mkS hoB), .string (mkS [])] 24)
      have HO5 := Lib.hid (own_keep2f ho2 hbal)
      have HF5 := Lib.hid (isFlds_lit w2 hoB [])
      have HB5 := Lib.hid (hb2.trans (hbal.mono hb2.size))
      have hs5 := HB5.out.size
      clear hb ho2 hb2 hbal
      go_wp2_with (at_builtin; refine joinF_guarded (by rfl) _ _ rfl w.heap.size _ _ K [(hoB, [])] rfl rfl HO5.out HF5.out (fun _ _ h => by injection h with h1; cases h1) hs5 hk1 (by simp) ?_)
      intro v6 w6 ho6 hg6
      have HB6 := Lib.hid (HB5.out.trans (below_of_grownF hg6 HO5.out hs5))
      have HO6 := Lib.hid ho6
      clear ho6 hg6
      go_wp2_with fail
      go_ret
      exact ⟨v6, rfl, by rw [List.length_append]; exact HO6.out, HB6.out⟩

theorem low_cls : lowL clsB = clsB := by decide
theorem low_kal : lowL kalB = kalB := by decide

set_option maxHeartbeats 8000000 in
set_option maxRecDepth 100000 in
theorem closes_any (M T : ByteArray) (s : Int) (R : ByteArray) (mi : Int) (vf : Value) (B : ByteArray) (vt : Value) (l : List (Bs × Bs)) (w : World) (hs : IsFlds w vf l) (hz : sumF l ≤ 900000) (hl : l.length ≤ 1048570) :
    Calls Tryd.prog 11 #[.agg (msgC M T s R mi vf B vt)] w fun e w' => e = .returned (.bool (closesB l mi)) ∧ Below w.heap.size w w' := by
  obtain ⟨a, cap, rfl⟩ : ∃ a cap, vf = .slice a l.length cap := by obtain ⟨a, c, h, -⟩ := hs; exact ⟨a, c, h⟩
  have hmm := @run_makeMap Tryd.prog
  have hX := Box.new w 28 (msgC M T s R mi (.slice a l.length cap) B vt)
  have hB0 := below_alloc w (.cells (msgC M T s R mi (.slice a l.length cap) B vt) 28)
  have hs1 : (w.alloc (.cells (msgC M T s R mi (.slice a l.length cap) B vt) 28)).heap.size = w.heap.size + 1 := by simp
  have hM := SetIs.made (w.alloc (.cells (msgC M T s R mi (.slice a l.length cap) B vt) 28))
  rw [hs1] at hM
  have hX2 := hX.later (below_alloc _ (.map #[] 0))
  have hB2 := hB0.alloc hB0.size (.map #[] 0)
  have hs2 : ((w.alloc (.cells (msgC M T s R mi (.slice a l.length cap) B vt) 28)).alloc (.map #[] 0)).heap.size = w.heap.size + 2 := by simp
  have c5 : ((w.alloc (.cells (msgC M T s R mi (.slice a l.length cap) B vt) 28)).alloc (.map #[] 0)).cell? ⟨w.heap.size, 5, none⟩ = some (.slice a l.length cap) := hX2.cell 5 _ rfl
  have hop := opts_any _ l _ (isFlds_below hs hB2) (by omega) (by omega)
  have hln := listF_len cnB l
  have hlp := listF_piece cnB l
  have hoS : optS l = (listF l cnB).map lowL := rfl
  have HOpt : Hid (Calls Tryd.prog 31 #[.slice a l.length cap] ((w.alloc (.cells (msgC M T s R mi (.slice a l.length cap) B vt) 28)).alloc (.map #[] 0)) fun e w' => ∃ v', e = .returned v' ∧ IsStrs w' v' (listF l cnB) ∧ v'.ownBlock ≠ some (w.heap.size + 1) ∧ SetIs w' (w.heap.size + 1) [] ∧ Box w' w.heap.size 28 (msgC M T s R mi (.slice a l.length cap) B vt) ∧ Below w.heap.size w w') := by
    refine hop.mono ?_
    rintro e w' ⟨v', rfl, ho, hb⟩
    exact ⟨v', rfl, isStrs_own ho, fun e => by have := (ho.lt _ e).1; omega, hM.later hb, hX2.later hb, hB2.trans (hb.mono (by omega))⟩
  have HAdd : Hid (∀ (W : World) (v' : Value), IsStrs W v' (listF l cnB) → v'.ownBlock ≠ some (w.heap.size + 1) → SetIs W (w.heap.size + 1) [] → Box W w.heap.size 28 (msgC M T s R mi (.slice a l.length cap) B vt) → Below w.heap.size w W →
      Calls Tryd.prog 30 #[.map (some (w.heap.size + 1)), v'] W fun e w' => e = .returned (.tuple #[]) ∧ SetIs w' (w.heap.size + 1) (optS l) ∧ Box w' w.heap.size 28 (msgC M T s R mi (.slice a l.length cap) B vt) ∧ Below w.heap.size w w') := by
    intro W v' hv hn hS hB hb
    refine (add_any (w.heap.size + 1) [] (listF l cnB) v' W hS hv hn (fun x hx => by have := hlp x hx; omega) (by omega) (by simp)).mono ?_
    rintro e w' ⟨rfl, h1, h2⟩
    refine ⟨rfl, by rw [hoS]; exact h1, ?_, hb.trans (below_of_set h2 (by omega) hb.size)⟩
    exact (h2.block _ hB.lt (by intro e; injection e with e; omega)).trans hB
  have HH1 : Hid (∀ W : World, SetIs W (w.heap.size + 1) (optS l) → Calls Tryd.prog 28 #[.map (some (w.heap.size + 1)), .string ⟨#[99, 108, 111, 115, 101]⟩] W fun e w' => e = .returned (.bool (decide (clsB ∈ optS l))) ∧ Below W.heap.size W w') := by
    intro W hS
    have h := has_any (w.heap.size + 1) (optS l) clsB W hS (by decide)
    rw [low_cls] at h
    exact h
  have HH2 : Hid (∀ W : World, SetIs W (w.heap.size + 1) (optS l) → Calls Tryd.prog 28 #[.map (some (w.heap.size + 1)), .string ⟨#[107, 101, 101, 112, 45, 97, 108, 105, 118, 101]⟩] W fun e w' => e = .returned (.bool (decide (kalB ∈ optS l))) ∧ Below W.heap.size W w') := by
    intro W hS
    have h := has_any (w.heap.size + 1) (optS l) kalB W hS (by decide)
    rw [low_kal] at h
    exact h
  have hv : closesB l mi = (decide (clsB ∈ optS l) || (decide (mi = 0) && !decide (kalB ∈ optS l))) := rfl
  rw [hv]
  clear hs hz hl hX hM hX2 hop hln hlp hoS hv hB0 hB2
  generalize decide (clsB ∈ optS l) = d1 at *
  generalize decide (kalB ∈ optS l) = d3 at *
  cases d1
  · by_cases h0 : mi = 0
    · have m0 : (mi == 0) = true := by simp [h0]
      have hd : (false || (decide (mi = 0) && !d3)) = !d3 := by rw [decide_eq_true h0]; rfl
      rw [hd]
      clear hd h0
      go_enter Tryd.func11, Tryd.ntmps11
      go_wp2_with fail
      refine HOpt.out.mono ?_
      rintro e w1 ⟨v1, rfl, hv1, hn1, hS1, hX1, hb1⟩
      have HA1 := Lib.hid (HAdd.out w1 v1 hv1 hn1 hS1 hX1 hb1)
      clear hv1 hn1 hS1 hX1 hb1 c5
      go_wp2_with fail
      refine HA1.out.mono ?_
      rintro e w2 ⟨rfl, hS2, hX2, hb2⟩
      have HH := Lib.hid (HH1.out w2 hS2)
      have HS2 := Lib.hid hS2
      have HX2 := Lib.hid hX2
      have HB2 := Lib.hid hb2
      clear hS2 hX2 hb2 HOpt HAdd HA1
      go_wp2_with fail
      refine HH.out.mono ?_
      rintro e w3 ⟨rfl, hb⟩
      have HB3 := Lib.hid (HB2.out.trans (hb.mono HB2.out.size))
      have c4 : w3.cell? ⟨w.heap.size, 4, none⟩ = some (.int .i64 mi) := (HX2.out.later hb).cell 4 _ rfl
      have HS3 := Lib.hid (HS2.out.later hb)
      clear hb HH
      go_wp2_with fail
      refine (HH2.out w3 HS3.out).mono ?_
      rintro e w4 ⟨rfl, hb⟩
      have HB4 := Lib.hid (HB3.out.trans (hb.mono HB3.out.size))
      clear hb
      go_wp2_with fail
      go_ret
      exact ⟨rfl, HB4.out⟩
    · have m0 : (mi == 0) = false := by simp [h0]
      have hd : (false || (decide (mi = 0) && !d3)) = false := by rw [decide_eq_false h0]; rfl
      rw [hd]
      clear hd h0
      go_enter Tryd.func11, Tryd.ntmps11
      go_wp2_with fail
      refine HOpt.out.mono ?_
      rintro e w1 ⟨v1, rfl, hv1, hn1, hS1, hX1, hb1⟩
      have HA1 := Lib.hid (HAdd.out w1 v1 hv1 hn1 hS1 hX1 hb1)
      clear hv1 hn1 hS1 hX1 hb1 c5
      go_wp2_with fail
      refine HA1.out.mono ?_
      rintro e w2 ⟨rfl, hS2, hX2, hb2⟩
      have HH := Lib.hid (HH1.out w2 hS2)
      have HS2 := Lib.hid hS2
      have HX2 := Lib.hid hX2
      have HB2 := Lib.hid hb2
      clear hS2 hX2 hb2 HOpt HAdd HA1
      go_wp2_with fail
      refine HH.out.mono ?_
      rintro e w3 ⟨rfl, hb⟩
      have HB3 := Lib.hid (HB2.out.trans (hb.mono HB2.out.size))
      have c4 : w3.cell? ⟨w.heap.size, 4, none⟩ = some (.int .i64 mi) := (HX2.out.later hb).cell 4 _ rfl
      have HS3 := Lib.hid (HS2.out.later hb)
      clear hb HH
      go_wp2_with fail
      go_ret
      exact ⟨rfl, HB3.out⟩
  · have hd : (true || (decide (mi = 0) && !d3)) = true := rfl
    rw [hd]
    clear hd
    go_enter Tryd.func11, Tryd.ntmps11
    go_wp2_with fail
    refine HOpt.out.mono ?_
    rintro e w1 ⟨v1, rfl, hv1, hn1, hS1, hX1, hb1⟩
    have HA1 := Lib.hid (HAdd.out w1 v1 hv1 hn1 hS1 hX1 hb1)
    clear hv1 hn1 hS1 hX1 hb1 c5
    go_wp2_with fail
    refine HA1.out.mono ?_
    rintro e w2 ⟨rfl, hS2, hX2, hb2⟩
    have HH := Lib.hid (HH1.out w2 hS2)
    have HS2 := Lib.hid hS2
    have HX2 := Lib.hid hX2
    have HB2 := Lib.hid hb2
    clear hS2 hX2 hb2 HOpt HAdd HA1
    go_wp2_with fail
    refine HH.out.mono ?_
    rintro e w3 ⟨rfl, hb⟩
    have HB3 := Lib.hid (HB2.out.trans (hb.mono HB2.out.size))
    have c4 : w3.cell? ⟨w.heap.size, 4, none⟩ = some (.int .i64 mi) := (HX2.out.later hb).cell 4 _ rfl
    have HS3 := Lib.hid (HS2.out.later hb)
    clear hb HH
    go_wp2_with fail
    go_ret
    exact ⟨rfl, HB3.out⟩
end Tk
end Go.Proofs.YtcddkeekabafgaaDoor
