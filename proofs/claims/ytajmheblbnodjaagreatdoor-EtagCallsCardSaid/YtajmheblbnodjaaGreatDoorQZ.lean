/- RefE ReD LgU LtT SamK, put together. -/
import Derived.Test.YtajmheblbnodjaaGreatDoorQL
import Derived.Test.YtajmheblbnodjaaGreatDoorQE
import Derived.Test.YtajmheblbnodjaaGreatDoorQY
import Derived.Test.YtajmheblbnodjaaGreatDoorQK
import Derived.Test.YtajmheblbnodjaaGreatDoorQD
import Derived.BigQuiet
namespace Go.Proofs.YtajmheblbnodjaaGreatDoor
open Go.RowKit
namespace Tk

theorem delF_snocD (l : List (Bs × Bs)) (f : Bs × Bs) (name : Bs) : delF name (l ++ [f]) = delF name l ++ (if isN name f then [] else [f]) := by
  rw [delF_app]
  congr 1
  unfold delF
  cases h : isN name f <;> simp [h]
theorem keepD {w w' : World} {B : Nat} {v : Value} {n : Nat} {xs : List Value} {e : TypeId} {k : Nat} (h : w.ownsRow B e k v n xs) (hb : Below w.heap.size w w') : w'.ownsRow B e k v n xs :=
  World.ownsRow.kept h (row := none) ⟨hb.os, hb.tape, hb.output, hb.size, fun k hk _ => hb.block k hk⟩ (by cases h : v.ownBlock <;> simp)

set_option maxHeartbeats 8000000 in
set_option maxRecDepth 100000 in
theorem rdel_any (v : Value) (l : List (Bs × Bs)) (name : Bs) (w : World) (hs : IsFlds w v l) (hz : ∀ f ∈ l, f.1.length ≤ 1099511627776 ∧ f.2.length ≤ 1099511627776) (hn : name.length ≤ 1099511627776) (hl : l.length ≤ 1048576) :
    Calls Tryz.prog 78 #[v, .string (mkS name)] w (OwnPost (delF name l) w) := by
  have HS := Lib.hid hs
  have HZ := Lib.hid hz
  have HNZ := Lib.hid (size_mkS name)
  unfold OwnPost
  obtain ⟨a, cap, rfl⟩ : ∃ a cap, v = .slice a l.length cap := by obtain ⟨a, c, h, -⟩ := hs; exact ⟨a, c, h⟩
  clear hs hz
  go_enter Tryz.func78, Tryz.ntmps78
  go_wp2_with fail
  go_loopw [5, 6] (fun v5 vi wr => ∃ i : Nat, i ≤ l.length ∧ vi = .int .i64 i ∧ Hid (wr.ownsRow w.heap.size 31 2 v5 (delF name (l.take i)).length (fcells (delF name (l.take i)))) ∧ Hid (Below w.heap.size w wr)) (fun _ vi _ => l.length - (RowKit.intOf vi).toNat)
  case atStart => exact ⟨0, Nat.zero_le _, rfl, World.ownsRow_nil _ _ _ _, Below.refl _ _⟩
  case round =>
    obtain ⟨i, hi, rfl, HO, HB⟩ := hrel
    rename World => W
    by_cases hlt : i < l.length
    · obtain ⟨a', c', e', hcap, hc⟩ := isFlds_below HS.out HB.out
      injection e' with e1 _ e2
      subst e1 e2
      obtain ⟨b, o, rfl, hc0, hc1⟩ := hc i (l.getD i ([], [])) (by simp [List.getD, hlt])
      have hm := HZ.out (l.getD i ([], [])) (by simp [List.getD, hlt])
      have htk : l.take (i + 1) = l.take i ++ [l.getD i ([], [])] := by
        rw [List.take_succ_eq_append_getElem hlt]; simp [List.getD, hlt]
      have hnx := delF_snocD (l.take i) (l.getD i ([], [])) name
      rw [← htk] at hnx
      have HNX := Lib.hid hnx
      have hal := delF_len name (l.take i)
      have htl : (l.take i).length ≤ i := by simp; omega
      have hal2 : (delF name (l.take i)).length ≤ 1048576 := by omega
      clear hc htk hnx hal htl
      generalize l.getD i ([], []) = f at *
      obtain ⟨n, x⟩ := f
      have hnz := size_mkS n
      simp only at hm hc0 hc1
      have HC := fun W : World => rsm_any (mkS n) (mkS name) W (by omega) (by rw [HNZ.out]; exact hn)
      rw [bs_mkS, bs_mkS] at HC
      have g0 : (0 : Int) ≤ (i : Int) := by omega
      have g1 : (i : Int) < (l.length : Int) := by omega
      have hlt0 := cell_lt (p := ⟨b, o + i * 2, none⟩) hc0
      have hlt1 := cell_lt (p := ⟨b, o + i * 2 + 1, none⟩) hc1
      clear hnz
      have hkk : isN name (n, x) = decide (lowL n = lowL name) := rfl
      rw [← hkk] at HC
      clear hkk
      generalize delF name (l.take i) = P at *
      cases hk : isN name (n, x)
      · rw [hk] at HC HNX
        have hx2 : delF name (l.take (i + 1)) = P ++ [(n, x)] := by rw [HNX.out]; simp
        have HX := Lib.hid hx2
        have HC2 := Lib.hid HC
        clear HC hk hx2
        go_wp2_with fail
        refine (HC2.out _).mono ?_
        rintro e w6 ⟨rfl, hb⟩
        have ho6 := keepD HO.out hb
        have hB' : w.heap.size ≤ w6.heap.size := Nat.le_trans HB.out.size hb.size
        have HB6 := Lib.hid (HB.out.trans (hb.mono HB.out.size))
        have p0 : w6.cell? ⟨b, o + i * 2, none⟩ = some (.string (mkS n)) := (hb.cell (p := ⟨b, o + i * 2, none⟩) hlt0).trans hc0
        have p1 : w6.cell? ⟨b, o + i * 2 + 1, none⟩ = some (.string (mkS x)) := (hb.cell (p := ⟨b, o + i * 2 + 1, none⟩) hlt1).trans hc1
        have hbal : Below w6.heap.size w6 (w6.alloc (Obj.cells #[.string (mkS n), .string (mkS x)] 31)) := (Below.refl _ _).alloc (Nat.le_refl _) _
        have HO7 := Lib.hid (keepD ho6 hbal)
        have HF7 := Lib.hid (isFlds_lit w6 n x)
        have HB7 := Lib.hid (HB6.out.trans (hbal.mono hB'))
        have hs7 : w.heap.size ≤ (w6.alloc (Obj.cells #[.string (mkS n), .string (mkS x)] 31)).heap.size := HB7.out.size
        clear hb ho6 hbal
        go_wp2_with (at_builtin; refine joinF_guarded (by rfl) _ _ rfl w.heap.size _ _ P [(n, x)] rfl rfl HO7.out HF7.out (fun _ _ h => by injection h with h1; cases h1) hs7 hal2 (by simp) ?_)
        intro v8 w8 ho8 hg8
        have HB8 := Lib.hid (HB7.out.trans (below_of_grownF hg8 HO7.out hs7))
        have e1 : (P ++ [(n, x)]).length = P.length + 1 := by simp
        have HO8 : Hid (w8.ownsRow w.heap.size 31 2 v8 (delF name (l.take (i + 1))).length (fcells (delF name (l.take (i + 1))))) := by
          show World.ownsRow _ _ _ _ _ _ _
          rw [HX.out]
          first | exact ho8 | (rw [e1]; exact ho8)
        clear ho8 hg8 e1
        go_wp2_with fail
        exact ⟨⟨i + 1, hlt, by go_num, HO8, HB8⟩, by simp [RowKit.intOf]; omega⟩
      · rw [hk] at HC HNX
        have hx2 : delF name (l.take (i + 1)) = P := by rw [HNX.out]; simp
        have HX := Lib.hid hx2
        have HC2 := Lib.hid HC
        clear HC hk hx2
        go_wp2_with fail
        refine (HC2.out _).mono ?_
        rintro e w5 ⟨rfl, hb⟩
        have HO5 := Lib.hid (keepD HO.out hb)
        have HB5 := Lib.hid (HB.out.trans (hb.mono HB.out.size))
        clear hb
        go_wp2_with fail
        refine ⟨⟨i + 1, hlt, by go_num, ?_, HB5⟩, by simp [RowKit.intOf]; omega⟩
        show World.ownsRow _ _ _ _ _ _ _
        rw [HX.out]
        exact HO5.out
    · have hil : l.take i = l := List.take_of_length_le (by omega)
      rw [hil] at HO
      go_wp2_with fail
      go_ret
      exact ⟨_, rfl, HO.out, HB.out⟩
end Tk
end Go.Proofs.YtajmheblbnodjaaGreatDoor
namespace Go.Proofs.YtajmheblbnodjaaGreatDoor
open Go.RowKit
namespace Tk

theorem nW_cell {w : World} {g : Nat} (h : Bx w g 9 nWA) (k : Nat) (hk : k < 6) : w.cell? ⟨g, k, none⟩ = some (.string (mkS (nWs.getD k []))) := by
  refine h.cell k _ ?_
  rcases (by omega : k = 0 ∨ k = 1 ∨ k = 2 ∨ k = 3 ∨ k = 4 ∨ k = 5) with rfl | rfl | rfl | rfl | rfl | rfl <;> rfl

set_option maxHeartbeats 16000000 in
set_option maxRecDepth 100000 in
theorem rask_any (v : Value) (l : List (Bs × Bs)) (c : Ck) (w : World) (hs : IsFlds w v l) (hz : ∀ f ∈ l, f.1.length ≤ 1099511627776 ∧ f.2.length ≤ 1099511627776) (hl : l.length ≤ 100000)
    (hv : c.v.length ≤ 1000000) (ha : -9223372036854775808 ≤ c.a ∧ c.a ≤ 9223372036854775807) :
    Calls Tryz.prog 68 #[v, ckV c] w fun e w' => ∃ v', e = .returned v' ∧ IsFlds w' v' (askL l c) ∧ Below w.heap.size w w' := by
  have hb0 : Below w.heap.size w (w.alloc (.cells (ckA c) 89)) := (Below.refl _ _).alloc (Nat.le_refl _) _
  have hBx := Bx.new w 89 (ckA c)
  have hz1 : (w.alloc (.cells (ckA c) 89)).heap.size = w.heap.size + 1 := by simp
  have hb1 : Below (w.alloc (.cells (ckA c) 89)).heap.size (w.alloc (.cells (ckA c) 89)) ((w.alloc (.cells (ckA c) 89)).alloc (.cells nWA 9)) := (Below.refl _ _).alloc (Nat.le_refl _) _
  have hNm := Bx.new (w.alloc (.cells (ckA c) 89)) 9 nWA
  rw [hz1] at hNm
  have hbb := hb0.trans (hb1.mono (by simp))
  have hX0 := hBx.later hb1
  have hS0 := isFlds_below hs hbb
  have HFm := Lib.hid (fun W : World => rformat_any c.a W ha)
  have HTx := Lib.hid (fun W : World => rtext11_any (c.w, c.v) W (by simp only; omega))
  have HDl : Hid (∀ (v : Value) (i : Nat) (W : World), IsFlds W v (delAll (nWs.take i) l) → i < 6 → Calls Tryz.prog 78 #[v, .string (mkS (nWs.getD i []))] W (OwnPost (delAll (nWs.take (i + 1)) l) W)) := by
    intro v i W h1 hi
    rw [delAll_step l i hi]
    exact rdel_any v _ _ W h1 (fun f hf => hz f (delAll_mem _ _ f hf)) (by
      rcases (by omega : i = 0 ∨ i = 1 ∨ i = 2 ∨ i = 3 ∨ i = 4 ∨ i = 5) with rfl | rfl | rfl | rfl | rfl | rfl <;> decide) (Nat.le_trans (delAll_len _ _) (by omega))
  have HNc := Lib.hid (fun (W : World) (g : Nat) (h : Bx W g 9 nWA) (k : Nat) (hk : k < 6) => nW_cell h k hk)
  have hask : askL l c = delAll nWs l ++ askA c ++ askZ c := rfl
  have HAsk := Lib.hid hask
  have hdl : (delAll nWs l).length ≤ 100000 := Nat.le_trans (delAll_len _ _) hl
  have HA := Lib.hid (show askA c = if (c.h && opq c.v) = true then [(nINM, tgT (c.w, c.v))] else [] from rfl)
  have HZ := Lib.hid (show askZ c = if (c.b && okT c.a) = true then [(nIMS, fmtL c.a)] else [] from rfl)
  have HTe := Lib.hid (show tgTE (c.w, c.v) = if opq c.v then 0 else 4 from rfl)
  have HCe := Lib.hid (show civE c.a = if okT c.a = true then 0 else 2 from rfl)
  have H6 := Lib.hid (show nWs.take 6 = nWs from rfl)
  obtain ⟨a, cap, rfl⟩ : ∃ a cap, v = .slice a l.length cap := by obtain ⟨a, c, h, -⟩ := hs; exact ⟨a, c, h⟩
  have HS0 := Lib.hid hS0
  have HB0 := Lib.hid hbb
  have HX0 := Lib.hid hX0
  have HN0 := Lib.hid hNm
  clear hb0 hBx hs hS0 hz hask hz1 hb1 hNm hbb hX0
  unfold FmtPost at HFm
  unfold OwnPost at HDl
  generalize askL l c = R at *
  generalize askA c = RA at *
  generalize askZ c = RZ at *
  generalize tgTE (c.w, c.v) = te at *
  generalize tgT (c.w, c.v) = tt at *
  generalize civE c.a = ce at *
  generalize fmtL c.a = ft at *
  generalize okT c.a = ok at *
  generalize opq c.v = op at *
  obtain ⟨cw, cv, ch, ca, cb⟩ := c
  unfold ckV ckA at *
  unfold tgVal at HTx
  simp only at *
  have HNW : Hid (nWA = #[.string ⟨#[73, 102, 45, 77, 97, 116, 99, 104]⟩, .string ⟨#[73, 102, 45, 78, 111, 110, 101, 45, 77, 97, 116, 99, 104]⟩, .string ⟨#[73, 102, 45, 77, 111, 100, 105, 102, 105, 101, 100, 45, 83, 105, 110, 99, 101]⟩, .string ⟨#[73, 102, 45, 85, 110, 109, 111, 100, 105, 102, 105, 101, 100, 45, 83, 105, 110, 99, 101]⟩, .string ⟨#[73, 102, 45, 82, 97, 110, 103, 101]⟩, .string ⟨#[82, 97, 110, 103, 101]⟩]) := rfl
  rw [HNW.out] at HNc HB0 HX0 HN0 HS0
  go_enter Tryz.func68, Tryz.ntmps68
  go_wp2_with fail
  generalize (w.alloc (.cells #[.bool cw, .string (mkS cv), .bool ch, .int .i64 ca, .bool cb] 89)).alloc (.cells #[.string ⟨#[73, 102, 45, 77, 97, 116, 99, 104]⟩, .string ⟨#[73, 102, 45, 78, 111, 110, 101, 45, 77, 97, 116, 99, 104]⟩, .string ⟨#[73, 102, 45, 77, 111, 100, 105, 102, 105, 101, 100, 45, 83, 105, 110, 99, 101]⟩, .string ⟨#[73, 102, 45, 85, 110, 109, 111, 100, 105, 102, 105, 101, 100, 45, 83, 105, 110, 99, 101]⟩, .string ⟨#[73, 102, 45, 82, 97, 110, 103, 101]⟩, .string ⟨#[82, 97, 110, 103, 101]⟩] 9) = W0 at *
  go_loopw [0, 13] (fun v0 vi wr => ∃ i : Nat, i ≤ 6 ∧ vi = .int .i64 i ∧ Hid (IsFlds wr v0 (delAll (nWs.take i) l)) ∧ Hid (∀ n c, i ≠ 0 → v0 = .slice none n c → c = 0) ∧ Hid (Bx wr (w.heap.size + 1) 9 #[.string ⟨#[73, 102, 45, 77, 97, 116, 99, 104]⟩, .string ⟨#[73, 102, 45, 78, 111, 110, 101, 45, 77, 97, 116, 99, 104]⟩, .string ⟨#[73, 102, 45, 77, 111, 100, 105, 102, 105, 101, 100, 45, 83, 105, 110, 99, 101]⟩, .string ⟨#[73, 102, 45, 85, 110, 109, 111, 100, 105, 102, 105, 101, 100, 45, 83, 105, 110, 99, 101]⟩, .string ⟨#[73, 102, 45, 82, 97, 110, 103, 101]⟩, .string ⟨#[82, 97, 110, 103, 101]⟩]) ∧ Hid (Bx wr w.heap.size 89 #[.bool cw, .string (mkS cv), .bool ch, .int .i64 ca, .bool cb]) ∧ Hid (Below w.heap.size w wr)) (fun _ vi _ => 6 - (RowKit.intOf vi).toNat)
  case atStart => exact ⟨0, Nat.zero_le _, rfl, HS0, fun _ _ h => absurd rfl h, HN0, HX0, HB0⟩
  case round =>
    obtain ⟨i, hi, rfl, HS, HNL, HNm, HX, HB⟩ := hrel
    rename World => W
    clear HS0 HN0 HB0 HX0
    by_cases hlt : i < 6
    · have hcc := HNc.out W _ HNm.out i hlt
      have HD := Lib.hid (HDl.out u0 i W HS.out hlt)
      generalize nWs.getD i [] = nm at *
      have g0 : (0 : Int) ≤ (i : Int) := by omega
      have g1 : (i : Int) < 6 := by omega
      clear HNc HDl HTx HFm
      go_wp2_with fail
      refine HD.out.mono ?_
      rintro e w1 ⟨v1, rfl, ho, hb⟩
      have HB1 := Lib.hid (HB.out.trans (hb.mono HB.out.size))
      have HX1 := Lib.hid (HX.out.later hb)
      have HNm1 := Lib.hid (HNm.out.later hb)
      have HS1 := Lib.hid (isFlds_own ho)
      have hnn := own_nilE ho
      have HN1 : Hid (∀ n c, i + 1 ≠ 0 → v1 = .slice none n c → c = 0) := fun n c _ h => hnn n c h
      clear ho hb hnn
      go_wp2_with fail
      exact ⟨⟨i + 1, hlt, by go_num, HS1, HN1, HNm1, HX1, HB1⟩, by simp [RowKit.intOf]; omega⟩
    · obtain rfl : i = 6 := by omega
      have HS6 := HS
      rw [H6.out] at HS6
      have HNl6 : Hid (∀ n c, u0 = .slice none n c → c = 0) := fun n c h => HNL.out n c (by decide) h
      have c0 := HX.out.cell 0 _ rfl
      have c1 := HX.out.cell 1 _ rfl
      have HTx1 := Lib.hid (HTx.out W)
      clear HNc HDl HS HNL HTx H6 HNm
      generalize delAll nWs l = D at *
      go_wp2_with fail
      refine HTx1.out.mono ?_
      rintro e w1 ⟨rfl, hb⟩
      have HB1 := Lib.hid (HB.out.trans (hb.mono HB.out.size))
      have HX1 := Lib.hid (HX.out.later hb)
      have HS1 := Lib.hid (isFlds_below HS6.out hb)
      clear hb c0 c1 HX HB HS6 HTx1
      have k2 := HX1.out.cell 2 _ rfl
      have k3 := HX1.out.cell 3 _ rfl
      have k4 := HX1.out.cell 4 _ rfl
      cases ch
      · have HRA : Hid (RA = []) := by show _ = _; rw [HA.out]; rfl
        go_upto_region 9 with (fail)
        go_wp2_with fail
        refine (HFm.out _).mono ?_
        rintro e wf ⟨rfl, hb⟩
        have HBf := Lib.hid (HB1.out.trans (hb.mono HB1.out.size))
        have HSf := Lib.hid (isFlds_below HS1.out hb)
        have HNlf := HNl6
        have HXf := Lib.hid (HX1.out.later hb)
        have m4 := HXf.out.cell 4 _ rfl
        clear hb k2 k3 k4 HFm
        cases cb
        · have HR : Hid (R = D) := by show _ = _; rw [HAsk.out, HZ.out, HRA.out]; simp
          go_wp2_with fail
          go_ret
          exact ⟨_, rfl, by rw [HR.out]; exact HSf.out, HBf.out⟩
        · cases ok
          · have HE : Hid (ce = 2) := by show _ = _; rw [HCe.out]; rfl
            have HR : Hid (R = D) := by show _ = _; rw [HAsk.out, HZ.out, HRA.out]; simp
            have hne : (ce == 0) = false := by rw [HE.out]; rfl
            go_wp2_with fail
            go_ret
            exact ⟨_, rfl, by rw [HR.out]; exact HSf.out, HBf.out⟩
          · have HE : Hid (ce = 0) := by show _ = _; rw [HCe.out]; rfl
            have HR : Hid (R = D ++ [(nIMS, ft)]) := by show _ = _; rw [HAsk.out, HZ.out, HRA.out]; simp
            have hne : (ce == 0) = true := by rw [HE.out]; rfl
            have hbez : Below wf.heap.size wf (wf.alloc (Obj.cells #[] 31)) := (Below.refl _ _).alloc (Nat.le_refl _) _
            have HOez := Lib.hid (World.ownsRow_lit (base := w.heap.size) (e := 31) (size := 2) wf #[] 0 HBf.out.size (by decide) rfl)
            have HSez := Lib.hid (isFlds_below HSf.out hbez)
            have HBez := Lib.hid (HBf.out.trans (hbez.mono HBf.out.size))
            have HXez := Lib.hid (HXf.out.later hbez)
            have hsez : w.heap.size ≤ (wf.alloc (Obj.cells #[] 31)).heap.size := HBez.out.size
            clear hbez
            go_wp2_with (at_builtin; refine joinF_guarded (by rfl) _ _ rfl w.heap.size _ _ [] D rfl rfl HOez.out HSez.out HNlf.out hsez (by simp) (by omega) ?_)
            intro vjz wjz hoj hgj
            have HBjz := Lib.hid (HBez.out.trans (below_of_grownF hgj HOez.out hsez))
            have HXjz := Lib.hid (HXez.out.grown hgj (fun e => own_notBx HOez.out HXez.out e.symm))
            have HOjz : Hid (wjz.ownsRow w.heap.size 31 2 vjz D.length (fcells D)) := by show World.ownsRow _ _ _ _ _ _ _; exact hoj
            clear hoj hgj
            have hblz : Below wjz.heap.size wjz (wjz.alloc (Obj.cells #[.string ⟨#[73, 102, 45, 77, 111, 100, 105, 102, 105, 101, 100, 45, 83, 105, 110, 99, 101]⟩, .string (mkS ft)] 31)) := (Below.refl _ _).alloc (Nat.le_refl _) _
            have HOlz := Lib.hid (own_keepT HOjz.out hblz)
            have HFlz : Hid (IsFlds (wjz.alloc (Obj.cells #[.string ⟨#[73, 102, 45, 77, 111, 100, 105, 102, 105, 101, 100, 45, 83, 105, 110, 99, 101]⟩, .string (mkS ft)] 31)) (.slice (some ⟨wjz.heap.size, 0, none⟩) 1 1) [(nIMS, ft)]) := isFlds_litE wjz nIMS ft
            have HBlz := Lib.hid (HBjz.out.trans (hblz.mono HBjz.out.size))
            have HXlz := Lib.hid (HXjz.out.later hblz)
            have hslz : w.heap.size ≤ (wjz.alloc (Obj.cells #[.string ⟨#[73, 102, 45, 77, 111, 100, 105, 102, 105, 101, 100, 45, 83, 105, 110, 99, 101]⟩, .string (mkS ft)] 31)).heap.size := HBlz.out.size
            clear hblz
            go_wp2_with (at_builtin; refine joinF_guarded (by rfl) _ _ rfl w.heap.size _ _ D [(nIMS, ft)] rfl rfl HOlz.out HFlz.out (fun _ _ h => by injection h with h1; cases h1) hslz (by omega) (by simp) ?_)
            intro vkz wkz hok hgk
            have HBkz := Lib.hid (HBlz.out.trans (below_of_grownF hgk HOlz.out hslz))
            have HXkz := Lib.hid (HXlz.out.grown hgk (fun e => own_notBx HOlz.out HXlz.out e.symm))
            have HSk : Hid (IsFlds wkz vkz R) := by show IsFlds _ _ _; rw [HR.out]; exact isFlds_own (by rw [List.length_append]; exact hok)
            clear hok hgk
            go_wp2_with fail
            go_ret
            exact ⟨_, rfl, HSk.out, HBkz.out⟩
      · cases op
        · have HRA : Hid (RA = []) := by show _ = _; rw [HA.out]; rfl
          have HE1 : Hid (te = 4) := by show _ = _; rw [HTe.out]; rfl
          have hne1 : (te == 0) = false := by rw [HE1.out]; rfl
          go_upto_region 9 with (fail)
          go_wp2_with fail
          refine (HFm.out _).mono ?_
          rintro e wf ⟨rfl, hb⟩
          have HBf := Lib.hid (HB1.out.trans (hb.mono HB1.out.size))
          have HSf := Lib.hid (isFlds_below HS1.out hb)
          have HNlf := HNl6
          have HXf := Lib.hid (HX1.out.later hb)
          have m4 := HXf.out.cell 4 _ rfl
          clear hb k2 k3 k4 HFm
          cases cb
          · have HR : Hid (R = D) := by show _ = _; rw [HAsk.out, HZ.out, HRA.out]; simp
            go_wp2_with fail
            go_ret
            exact ⟨_, rfl, by rw [HR.out]; exact HSf.out, HBf.out⟩
          · cases ok
            · have HE : Hid (ce = 2) := by show _ = _; rw [HCe.out]; rfl
              have HR : Hid (R = D) := by show _ = _; rw [HAsk.out, HZ.out, HRA.out]; simp
              have hne : (ce == 0) = false := by rw [HE.out]; rfl
              go_wp2_with fail
              go_ret
              exact ⟨_, rfl, by rw [HR.out]; exact HSf.out, HBf.out⟩
            · have HE : Hid (ce = 0) := by show _ = _; rw [HCe.out]; rfl
              have HR : Hid (R = D ++ [(nIMS, ft)]) := by show _ = _; rw [HAsk.out, HZ.out, HRA.out]; simp
              have hne : (ce == 0) = true := by rw [HE.out]; rfl
              have hbez : Below wf.heap.size wf (wf.alloc (Obj.cells #[] 31)) := (Below.refl _ _).alloc (Nat.le_refl _) _
              have HOez := Lib.hid (World.ownsRow_lit (base := w.heap.size) (e := 31) (size := 2) wf #[] 0 HBf.out.size (by decide) rfl)
              have HSez := Lib.hid (isFlds_below HSf.out hbez)
              have HBez := Lib.hid (HBf.out.trans (hbez.mono HBf.out.size))
              have HXez := Lib.hid (HXf.out.later hbez)
              have hsez : w.heap.size ≤ (wf.alloc (Obj.cells #[] 31)).heap.size := HBez.out.size
              clear hbez
              go_wp2_with (at_builtin; refine joinF_guarded (by rfl) _ _ rfl w.heap.size _ _ [] D rfl rfl HOez.out HSez.out HNlf.out hsez (by simp) (by omega) ?_)
              intro vjz wjz hoj hgj
              have HBjz := Lib.hid (HBez.out.trans (below_of_grownF hgj HOez.out hsez))
              have HXjz := Lib.hid (HXez.out.grown hgj (fun e => own_notBx HOez.out HXez.out e.symm))
              have HOjz : Hid (wjz.ownsRow w.heap.size 31 2 vjz D.length (fcells D)) := by show World.ownsRow _ _ _ _ _ _ _; exact hoj
              clear hoj hgj
              have hblz : Below wjz.heap.size wjz (wjz.alloc (Obj.cells #[.string ⟨#[73, 102, 45, 77, 111, 100, 105, 102, 105, 101, 100, 45, 83, 105, 110, 99, 101]⟩, .string (mkS ft)] 31)) := (Below.refl _ _).alloc (Nat.le_refl _) _
              have HOlz := Lib.hid (own_keepT HOjz.out hblz)
              have HFlz : Hid (IsFlds (wjz.alloc (Obj.cells #[.string ⟨#[73, 102, 45, 77, 111, 100, 105, 102, 105, 101, 100, 45, 83, 105, 110, 99, 101]⟩, .string (mkS ft)] 31)) (.slice (some ⟨wjz.heap.size, 0, none⟩) 1 1) [(nIMS, ft)]) := isFlds_litE wjz nIMS ft
              have HBlz := Lib.hid (HBjz.out.trans (hblz.mono HBjz.out.size))
              have HXlz := Lib.hid (HXjz.out.later hblz)
              have hslz : w.heap.size ≤ (wjz.alloc (Obj.cells #[.string ⟨#[73, 102, 45, 77, 111, 100, 105, 102, 105, 101, 100, 45, 83, 105, 110, 99, 101]⟩, .string (mkS ft)] 31)).heap.size := HBlz.out.size
              clear hblz
              go_wp2_with (at_builtin; refine joinF_guarded (by rfl) _ _ rfl w.heap.size _ _ D [(nIMS, ft)] rfl rfl HOlz.out HFlz.out (fun _ _ h => by injection h with h1; cases h1) hslz (by omega) (by simp) ?_)
              intro vkz wkz hok hgk
              have HBkz := Lib.hid (HBlz.out.trans (below_of_grownF hgk HOlz.out hslz))
              have HXkz := Lib.hid (HXlz.out.grown hgk (fun e => own_notBx HOlz.out HXlz.out e.symm))
              have HSk : Hid (IsFlds wkz vkz R) := by show IsFlds _ _ _; rw [HR.out]; exact isFlds_own (by rw [List.length_append]; exact hok)
              clear hok hgk
              go_wp2_with fail
              go_ret
              exact ⟨_, rfl, HSk.out, HBkz.out⟩
        · have HRA : Hid (RA = [(nINM, tt)]) := by show _ = _; rw [HA.out]; rfl
          have HE1 : Hid (te = 0) := by show _ = _; rw [HTe.out]; rfl
          have hne1 : (te == 0) = true := by rw [HE1.out]; rfl
          have hbey : Below w1.heap.size w1 (w1.alloc (Obj.cells #[] 31)) := (Below.refl _ _).alloc (Nat.le_refl _) _
          have HOey := Lib.hid (World.ownsRow_lit (base := w.heap.size) (e := 31) (size := 2) w1 #[] 0 HB1.out.size (by decide) rfl)
          have HSey := Lib.hid (isFlds_below HS1.out hbey)
          have HBey := Lib.hid (HB1.out.trans (hbey.mono HB1.out.size))
          have HXey := Lib.hid (HX1.out.later hbey)
          have hsey : w.heap.size ≤ (w1.alloc (Obj.cells #[] 31)).heap.size := HBey.out.size
          clear hbey
          go_wp2_with (at_builtin; refine joinF_guarded (by rfl) _ _ rfl w.heap.size _ _ [] D rfl rfl HOey.out HSey.out HNl6.out hsey (by simp) (by omega) ?_)
          intro vjy wjy hoj hgj
          have HBjy := Lib.hid (HBey.out.trans (below_of_grownF hgj HOey.out hsey))
          have HXjy := Lib.hid (HXey.out.grown hgj (fun e => own_notBx HOey.out HXey.out e.symm))
          have HOjy : Hid (wjy.ownsRow w.heap.size 31 2 vjy D.length (fcells D)) := by show World.ownsRow _ _ _ _ _ _ _; exact hoj
          clear hoj hgj
          have hbly : Below wjy.heap.size wjy (wjy.alloc (Obj.cells #[.string ⟨#[73, 102, 45, 78, 111, 110, 101, 45, 77, 97, 116, 99, 104]⟩, .string (mkS tt)] 31)) := (Below.refl _ _).alloc (Nat.le_refl _) _
          have HOly := Lib.hid (own_keepT HOjy.out hbly)
          have HFly : Hid (IsFlds (wjy.alloc (Obj.cells #[.string ⟨#[73, 102, 45, 78, 111, 110, 101, 45, 77, 97, 116, 99, 104]⟩, .string (mkS tt)] 31)) (.slice (some ⟨wjy.heap.size, 0, none⟩) 1 1) [(nINM, tt)]) := isFlds_litE wjy nINM tt
          have HBly := Lib.hid (HBjy.out.trans (hbly.mono HBjy.out.size))
          have HXly := Lib.hid (HXjy.out.later hbly)
          have hsly : w.heap.size ≤ (wjy.alloc (Obj.cells #[.string ⟨#[73, 102, 45, 78, 111, 110, 101, 45, 77, 97, 116, 99, 104]⟩, .string (mkS tt)] 31)).heap.size := HBly.out.size
          clear hbly
          go_wp2_with (at_builtin; refine joinF_guarded (by rfl) _ _ rfl w.heap.size _ _ D [(nINM, tt)] rfl rfl HOly.out HFly.out (fun _ _ h => by injection h with h1; cases h1) hsly (by omega) (by simp) ?_)
          intro vky wky hok hgk
          have HBky := Lib.hid (HBly.out.trans (below_of_grownF hgk HOly.out hsly))
          have HXky := Lib.hid (HXly.out.grown hgk (fun e => own_notBx HOly.out HXly.out e.symm))
          obtain ⟨D2, hD2⟩ : ∃ D2, D2 = D ++ [(nINM, tt)] := ⟨_, rfl⟩
          have hok2 : wky.ownsRow w.heap.size 31 2 vky D2.length (fcells D2) := by rw [hD2, List.length_append]; exact hok
          have HS7 := Lib.hid (isFlds_own hok2)
          have HNl7 := Lib.hid (own_nilE hok2)
          have hdl2 : D2.length ≤ 100001 := by rw [hD2, List.length_append]; simp; omega
          have HD2 := Lib.hid hD2
          clear hD2 hok hok2 hgk k2 k3 k4
          obtain ⟨HB7, HX7⟩ : Hid (Below w.heap.size w wky) ∧ Hid (Bx wky w.heap.size 89 #[.bool cw, .string (mkS cv), .bool true, .int .i64 ca, .bool cb]) := ⟨HBky, HXky⟩
          have k3 := HX7.out.cell 3 _ rfl
          have k4 := HX7.out.cell 4 _ rfl
          have k2 := HX7.out.cell 2 _ rfl
          go_upto_region 9 with (fail)
          generalize wky = w7 at *
          go_wp2_with fail
          refine (HFm.out _).mono ?_
          rintro e wf ⟨rfl, hb⟩
          have HBf := Lib.hid (HB7.out.trans (hb.mono HB7.out.size))
          have HSf := Lib.hid (isFlds_below HS7.out hb)
          have HNlf := HNl7
          have HXf := Lib.hid (HX7.out.later hb)
          have m4 := HXf.out.cell 4 _ rfl
          clear hb k2 k3 k4 HFm
          cases cb
          · have HR : Hid (R = D2) := by show _ = _; rw [HAsk.out, HZ.out, HRA.out, HD2.out]; simp
            go_wp2_with fail
            go_ret
            exact ⟨_, rfl, by rw [HR.out]; exact HSf.out, HBf.out⟩
          · cases ok
            · have HE : Hid (ce = 2) := by show _ = _; rw [HCe.out]; rfl
              have HR : Hid (R = D2) := by show _ = _; rw [HAsk.out, HZ.out, HRA.out, HD2.out]; simp
              have hne : (ce == 0) = false := by rw [HE.out]; rfl
              go_wp2_with fail
              go_ret
              exact ⟨_, rfl, by rw [HR.out]; exact HSf.out, HBf.out⟩
            · have HE : Hid (ce = 0) := by show _ = _; rw [HCe.out]; rfl
              have HR : Hid (R = D2 ++ [(nIMS, ft)]) := by show _ = _; rw [HAsk.out, HZ.out, HRA.out, HD2.out]; simp
              have hne : (ce == 0) = true := by rw [HE.out]; rfl
              have hbez : Below wf.heap.size wf (wf.alloc (Obj.cells #[] 31)) := (Below.refl _ _).alloc (Nat.le_refl _) _
              have HOez := Lib.hid (World.ownsRow_lit (base := w.heap.size) (e := 31) (size := 2) wf #[] 0 HBf.out.size (by decide) rfl)
              have HSez := Lib.hid (isFlds_below HSf.out hbez)
              have HBez := Lib.hid (HBf.out.trans (hbez.mono HBf.out.size))
              have HXez := Lib.hid (HXf.out.later hbez)
              have hsez : w.heap.size ≤ (wf.alloc (Obj.cells #[] 31)).heap.size := HBez.out.size
              clear hbez
              go_wp2_with (at_builtin; refine joinF_guarded (by rfl) _ _ rfl w.heap.size _ _ [] D2 rfl rfl HOez.out HSez.out HNlf.out hsez (by simp) (by omega) ?_)
              intro vjz wjz hoj hgj
              have HBjz := Lib.hid (HBez.out.trans (below_of_grownF hgj HOez.out hsez))
              have HXjz := Lib.hid (HXez.out.grown hgj (fun e => own_notBx HOez.out HXez.out e.symm))
              have HOjz : Hid (wjz.ownsRow w.heap.size 31 2 vjz D2.length (fcells D2)) := by show World.ownsRow _ _ _ _ _ _ _; exact hoj
              clear hoj hgj
              have hblz : Below wjz.heap.size wjz (wjz.alloc (Obj.cells #[.string ⟨#[73, 102, 45, 77, 111, 100, 105, 102, 105, 101, 100, 45, 83, 105, 110, 99, 101]⟩, .string (mkS ft)] 31)) := (Below.refl _ _).alloc (Nat.le_refl _) _
              have HOlz := Lib.hid (own_keepT HOjz.out hblz)
              have HFlz : Hid (IsFlds (wjz.alloc (Obj.cells #[.string ⟨#[73, 102, 45, 77, 111, 100, 105, 102, 105, 101, 100, 45, 83, 105, 110, 99, 101]⟩, .string (mkS ft)] 31)) (.slice (some ⟨wjz.heap.size, 0, none⟩) 1 1) [(nIMS, ft)]) := isFlds_litE wjz nIMS ft
              have HBlz := Lib.hid (HBjz.out.trans (hblz.mono HBjz.out.size))
              have HXlz := Lib.hid (HXjz.out.later hblz)
              have hslz : w.heap.size ≤ (wjz.alloc (Obj.cells #[.string ⟨#[73, 102, 45, 77, 111, 100, 105, 102, 105, 101, 100, 45, 83, 105, 110, 99, 101]⟩, .string (mkS ft)] 31)).heap.size := HBlz.out.size
              clear hblz
              go_wp2_with (at_builtin; refine joinF_guarded (by rfl) _ _ rfl w.heap.size _ _ D2 [(nIMS, ft)] rfl rfl HOlz.out HFlz.out (fun _ _ h => by injection h with h1; cases h1) hslz (by omega) (by simp) ?_)
              intro vkz wkz hok hgk
              have HBkz := Lib.hid (HBlz.out.trans (below_of_grownF hgk HOlz.out hslz))
              have HXkz := Lib.hid (HXlz.out.grown hgk (fun e => own_notBx HOlz.out HXlz.out e.symm))
              have HSk : Hid (IsFlds wkz vkz R) := by show IsFlds _ _ _; rw [HR.out]; exact isFlds_own (by rw [List.length_append]; exact hok)
              clear hok hgk
              go_wp2_with fail
              go_ret
              exact ⟨_, rfl, HSk.out, HBkz.out⟩
end Tk
end Go.Proofs.YtajmheblbnodjaaGreatDoor
namespace Go.Proofs.YtajmheblbnodjaaGreatDoor
open Go.RowKit
namespace Tk

def lightU (l : List (Bs × Bs)) : Bool := decide (l.length ≤ 20) && lfGo 600 0 l
theorem lightU_parts (l : List (Bs × Bs)) (h : lightU l = true) : l.length ≤ 20 ∧ sumF l ≤ 680 := by
  unfold lightU at h
  rw [Bool.and_eq_true, decide_eq_true_eq] at h
  have := lfGo_sum 600 l 0 (by omega) h.2
  exact ⟨h.1, by omega⟩

set_option maxHeartbeats 2000000 in
set_option maxRecDepth 100000 in
theorem lightTwenty_any (v : Value) (l : List (Bs × Bs)) (w : World) (hs : IsFlds w v l) (hz : ∀ f ∈ l, f.1.length ≤ 140737488351232 ∧ f.2.length ≤ 140737488351232) (hl : l.length ≤ 140737488351232) :
    Calls Tryz.prog 110 #[v, .int .i64 20, .int .i64 600] w fun e w' => e = .returned (.bool (lightU l)) ∧ ∃ n, w' = w.drewN n := by
  obtain ⟨a, c, rfl, hcap, hc⟩ := hs
  have HC := Lib.hid hc
  have HZ := Lib.hid hz
  clear hc hz
  by_cases h20 : 20 < l.length
  · have fin : lightU l = false := by unfold lightU; rw [decide_eq_false (by omega)]; rfl
    have HF := Lib.hid fin
    have h' : (20 : Int) < (l.length : Int) := by omega
    clear fin
    go_enter Tryz.func110, Tryz.ntmps110
    go_wp2_with fail
    go_ret
    exact ⟨by rw [HF.out]; rfl, 0, rfl⟩
  · have fin : lightU l = lfGo 600 0 l := by unfold lightU; rw [decide_eq_true (by omega)]; rfl
    have HF := Lib.hid fin
    have h' : ¬ (20 : Int) < (l.length : Int) := by omega
    clear fin
    go_enter Tryz.func110, Tryz.ntmps110
    go_wp2_with fail
    go_loopw [7, 8] (fun vn vi wr => ∃ (i n m : Nat), i ≤ l.length ∧ n ≤ 600 ∧ vi = .int .i64 i ∧ vn = .int .i64 n ∧ wr = w.drewN m ∧ Hid (lightU l = lfGo 600 n (l.drop i))) (fun _ vi _ => l.length - (RowKit.intOf vi).toNat)
    case atStart => exact ⟨0, 0, 0, by omega, by omega, rfl, rfl, rfl, HF.out⟩
    case round =>
      obtain ⟨i, n, m, hi, hn, rfl, rfl, rfl, hd⟩ := hrel
      by_cases hlt : i < l.length
      · obtain ⟨b, o, rfl, hc0, hc1⟩ := HC.out i (l.getD i ([], [])) (by simp [List.getD, hlt])
        obtain ⟨z0, z1⟩ := HZ.out (l.getD i ([], [])) (by simp [List.getD, hlt])
        have hdr : l.drop i = l.getD i ([], []) :: l.drop (i + 1) := by rw [List.drop_eq_getElem_cons hlt]; simp [List.getD, hlt]
        have HD := Lib.hid hdr
        clear hdr
        generalize l.getD i ([], []) = f at *
        obtain ⟨x, y⟩ := f
        simp only at z0 z1 hc0 hc1
        have s0 := size_mkS x
        have s1 := size_mkS y
        have HS0 := Lib.hid s0
        have HS1 := Lib.hid s1
        have y0 : (mkS x).size ≤ 140737488351232 := by omega
        have y1 : (mkS y).size ≤ 140737488351232 := by omega
        clear s0 s1 z0 z1
        have hb0 : (0 : Int) ≤ (i : Int) := by omega
        have hb1 : (i : Int) < (l.length : Int) := by omega
        by_cases hb : 600 < n + (mkS x).size + (mkS y).size
        · have fin : lightU l = false := by
            rw [hd.out, HD.out, lfGo, if_pos (by rw [← HS0.out, ← HS1.out]; exact hb)]
          have HF2 := Lib.hid fin
          have hb' : (600 : Int) < (n : Int) + ((mkS x).size : Int) + ((mkS y).size : Int) := by omega
          clear fin HF HD hd
          generalize mkS x = s at *
          generalize mkS y = t at *
          have w1 : IntKind.i64.wrap ((n : Int) + (s.size : Int)) = (n : Int) + (s.size : Int) := IntWalk.i64_in _ (by omega)
          have w2 : IntKind.i64.wrap ((n : Int) + (s.size : Int) + (t.size : Int)) = (n : Int) + (s.size : Int) + (t.size : Int) := IntWalk.i64_in _ (by omega)
          go_wp2_with fail
          go_quiet (fail)
          clear w1 w2
          go_wp2_with fail
          go_ret
          exact ⟨by rw [HF2.out]; rfl, _, rfl⟩
        · have nx : lightU l = lfGo 600 (n + (mkS x).size + (mkS y).size) (l.drop (i + 1)) := by
            rw [hd.out, HD.out, lfGo, if_neg (by rw [← HS0.out, ← HS1.out]; exact hb), HS0.out, HS1.out]
          have HN := Lib.hid nx
          have hb' : ¬ (600 : Int) < (n : Int) + ((mkS x).size : Int) + ((mkS y).size : Int) := by omega
          clear nx HF HD hd
          generalize mkS x = s at *
          generalize mkS y = t at *
          have w1 : IntKind.i64.wrap ((n : Int) + (s.size : Int)) = (n : Int) + (s.size : Int) := IntWalk.i64_in _ (by omega)
          have w2 : IntKind.i64.wrap ((n : Int) + (s.size : Int) + (t.size : Int)) = (n : Int) + (s.size : Int) + (t.size : Int) := IntWalk.i64_in _ (by omega)
          go_wp2_with fail
          go_quiet (fail)
          clear w1 w2
          go_wp2_with fail
          exact ⟨⟨i + 1, n + s.size + t.size, _, by omega, by omega, by go_num, by go_num, rfl, HN⟩, by simp [RowKit.intOf]; omega⟩
      · have fin : lightU l = true := by rw [hd.out, List.drop_eq_nil_of_le (by omega)]; rfl
        have HF2 := Lib.hid fin
        clear fin
        go_wp2_with fail
        go_ret
        exact ⟨by rw [HF2.out]; rfl, _, rfl⟩

end Tk
end Go.Proofs.YtajmheblbnodjaaGreatDoor
namespace Go.Proofs.YtajmheblbnodjaaGreatDoor
open Go.RowKit
namespace Tk

/-- may the texts be gone through: so many bytes together -/
def txGo (b : Nat) : Nat → List Bs → Bool
  | _, [] => true
  | n, x :: t => if b < n + x.length then false else txGo b (n + x.length) t
def lightX (M b : Nat) (l : List Bs) : Bool := decide (l.length ≤ M) && txGo b 0 l
theorem txGo_each (b : Nat) : ∀ (l : List Bs) (n : Nat), txGo b n l = true → ∀ x ∈ l, x.length ≤ b
  | [], _, _, x, hx => by simp at hx
  | y :: t, n, h, x, hx => by
    unfold txGo at h
    split at h
    · cases h
    · rcases List.mem_cons.1 hx with rfl | hx
      · omega
      · exact txGo_each b t _ h x hx
theorem lightX_parts (M b : Nat) (l : List Bs) (h : lightX M b l = true) : l.length ≤ M ∧ ∀ x ∈ l, x.length ≤ b := by
  unfold lightX at h
  rw [Bool.and_eq_true, decide_eq_true_eq] at h
  exact ⟨h.1, txGo_each b l 0 h.2⟩

set_option maxHeartbeats 2000000 in
set_option maxRecDepth 100000 in
theorem lightX_any (M b : Nat) (v : Value) (l : List Bs) (w : World) (hM : M ≤ 1000000) (hb : b ≤ 1000000) (hs : IsStrs w v l) (hz : ∀ x ∈ l, x.length ≤ 140737488351232) (hl : l.length ≤ 140737488351232) :
    Calls Tryz.prog 32 #[v, .int .i64 (M : Int), .int .i64 (b : Int)] w fun e w' => e = .returned (.bool (lightX M b l)) ∧ w = w' := by
  obtain ⟨a, c, rfl, hc⟩ := hs
  have HC := Lib.hid hc
  have HZ := Lib.hid hz
  clear hc hz
  by_cases h20 : M < l.length
  · have fin : lightX M b l = false := by unfold lightX; rw [decide_eq_false (by omega)]; rfl
    have HF := Lib.hid fin
    have h' : (M : Int) < (l.length : Int) := by omega
    clear fin
    go_enter Tryz.func32, Tryz.ntmps32
    go_wp2_with fail
    go_ret
    exact ⟨by rw [HF.out]; rfl, rfl⟩
  · have fin : lightX M b l = txGo b 0 l := by unfold lightX; rw [decide_eq_true (by omega)]; rfl
    have HF := Lib.hid fin
    have h' : ¬ (M : Int) < (l.length : Int) := by omega
    clear fin
    go_enter Tryz.func32, Tryz.ntmps32
    go_wp2_with fail
    go_loop [7, 8] (fun vn vi => ∃ (i n : Nat), i ≤ l.length ∧ n ≤ b ∧ vi = .int .i64 i ∧ vn = .int .i64 n ∧ Hid (lightX M b l = txGo b n (l.drop i))) (fun _ vi => l.length - (RowKit.intOf vi).toNat)
    case atStart => exact ⟨0, 0, by omega, by omega, rfl, rfl, HF.out⟩
    case round =>
      obtain ⟨i, n, hi, hn, rfl, rfl, hd⟩ := hrel
      by_cases hlt : i < l.length
      · obtain ⟨bb, o, rfl, hcell⟩ := HC.out i (l.getD i []) (by simp [List.getD, hlt])
        have hxl := HZ.out (l.getD i []) (by simp [List.getD, hlt])
        have hdr : l.drop i = l.getD i [] :: l.drop (i + 1) := by rw [List.drop_eq_getElem_cons hlt]; simp [List.getD, hlt]
        have HD := Lib.hid hdr
        have hsz : (mkS (l.getD i [])).size = (l.getD i []).length := size_mkS _
        clear hdr
        generalize l.getD i [] = x at *
        have HS := Lib.hid hsz
        have hxz : (mkS x).size ≤ 140737488351232 := by omega
        clear hsz
        by_cases hbb : b < n + (mkS x).size
        · have fin : lightX M b l = false := by
            rw [hd.out, HD.out, txGo, if_pos (by rw [← HS.out]; exact hbb)]
          have HF2 := Lib.hid fin
          have hb' : (b : Int) < (n : Int) + ((mkS x).size : Int) := by omega
          clear fin
          generalize mkS x = s at *
          go_wp2_with fail
          go_ret
          exact ⟨by rw [HF2.out]; rfl, rfl⟩
        · have nx : lightX M b l = txGo b (n + (mkS x).size) (l.drop (i + 1)) := by
            rw [hd.out, HD.out, txGo, if_neg (by rw [← HS.out]; exact hbb), HS.out]
          have HN := Lib.hid nx
          have hb' : ¬ (b : Int) < (n : Int) + ((mkS x).size : Int) := by omega
          clear nx
          generalize mkS x = s at *
          go_wp2_with fail
          exact ⟨⟨i + 1, n + s.size, by omega, by omega, by go_num, by go_num, HN⟩, by simp [RowKit.intOf]; omega⟩
      · have fin : lightX M b l = true := by rw [hd.out, List.drop_eq_nil_of_le (by omega)]; rfl
        have HF2 := Lib.hid fin
        clear fin
        go_wp2_with fail
        go_ret
        exact ⟨by rw [HF2.out]; rfl, rfl⟩
end Tk
end Go.Proofs.YtajmheblbnodjaaGreatDoor
namespace Go.Proofs.YtajmheblbnodjaaGreatDoor
open Go.RowKit
namespace Tk

theorem field_neq (W : World) (a b : ByteArray) : (binOp .neq 31 (.agg #[.string a, .string b]) (.agg #[.string a, .string b])).run Tryz.prog W = .ok (.bool false) W := by
  rw [run_neq_struct, run_equalIn_agg _ _ _ _ _ (by simp [Program.fieldsOf, Tryz.underlying31]) noStand]
  simp [Program.fieldsOf, Tryz.underlying31, Op.eqFields, go_sem]

set_option maxHeartbeats 2000000 in
set_option maxRecDepth 100000 in
theorem ksame_self (v1 v2 : Value) (l : List (Bs × Bs)) (w : World) (h1 : IsFlds w v1 l) (h2 : IsFlds w v2 l) (hl : l.length ≤ 1099511627) :
    Calls Tryz.prog 67 #[v1, v2] w fun e w' => e = .returned (.bool true) ∧ Below w.heap.size w w' := by
  obtain ⟨a1, c1, rfl, l1, k1⟩ := h1
  obtain ⟨a2, c2, rfl, l2, k2⟩ := h2
  have K1 := Lib.hid k1
  have K2 := Lib.hid k2
  have hb : ((l.length : Int) != (l.length : Int)) = false := by simp
  clear k1 k2
  go_enter Tryz.func67, Tryz.ntmps67
  go_wp2_with fail
  go_loopw [5] (fun v wr => ∃ (j n : Nat), j ≤ l.length ∧ v = .int .i64 j ∧ wr = w.drewN n) (fun v _ => l.length - (RowKit.intOf v).toNat)
  case atStart => exact ⟨0, 0, Nat.zero_le _, rfl, rfl⟩
  case round =>
    obtain ⟨j, n, hj, rfl, rfl⟩ := hrel
    by_cases hlt : j < l.length
    · obtain ⟨b1, o1, rfl, d1, d2⟩ := K1.out j (l.getD j ([], [])) (by simp [List.getD, hlt])
      obtain ⟨b2, o2, rfl, d3, d4⟩ := K2.out j (l.getD j ([], [])) (by simp [List.getD, hlt])
      have hfn := field_neq
      generalize l.getD j ([], []) = f at *
      have g0 : (0 : Int) ≤ (j : Int) := by omega
      have g1 : (j : Int) < (l.length : Int) := by omega
      go_wp2_with fail
      go_quiet (fail)
      go_wp2_with fail
      exact ⟨⟨j + 1, _, by omega, by go_num, rfl⟩, by simp [RowKit.intOf]; omega⟩
    · go_wp2_with fail
      go_ret
      exact ⟨rfl, ⟨rfl, rfl, rfl, Nat.le_refl _, fun _ _ => rfl⟩⟩
end Tk
end Go.Proofs.YtajmheblbnodjaaGreatDoor
