/- EtF DrA DrB DrD, put together. -/
import Derived.Test.YthooghgiokgdhaaGreatDoorQO
import Derived.Test.YthooghgiokgdhaaGreatDoorQI
import Derived.Deep.Cut
import Derived.Test.YthooghgiokgdhaaGreatDoorQN
import Derived.Test.YthooghgiokgdhaaGreatDoorQM
import Derived.Lib.ConvBytes
import Derived.Laws.BytesArg
namespace Go.Proofs.YthooghgiokgdhaaGreatDoor
open Go.RowKit
namespace Tk

theorem ckRet {c : Ck} {a : Bool} {v : Bs} {h b : Bool} {t : Int} (e1 : c = ⟨a, v, h, t, b⟩) : Ending.returned (.agg #[.bool a, .string (mkS v), .bool h, .int .i64 t, .bool b]) = .returned (ckV c) := by
  subst e1; rfl
theorem bxSet3 {w : World} {g : Nat} {T : TypeId} {a b c d e : Value} (h : Bx w g T #[a, b, c, d, e]) (x y z : Value) : Bx (((w.setCell ⟨g, 0, none⟩ x).setCell ⟨g, 1, none⟩ y).setCell ⟨g, 2, none⟩ z) g T #[x, y, z, d, e] :=
  ((h.set 0 x).set 1 y).set 2 z
theorem bxSet2 {w : World} {g : Nat} {T : TypeId} {a b c d e : Value} (h : Bx w g T #[a, b, c, d, e]) (x y : Value) : Bx ((w.setCell ⟨g, 3, none⟩ x).setCell ⟨g, 4, none⟩ y) g T #[a, b, c, x, y] :=
  (h.set 3 x).set 4 y
theorem bxOther {w : World} {g k : Nat} {T : TypeId} {cs : Array Value} (h : Bx w g T cs) (hne : g ≠ k) (i : Nat) (v : Value) : Bx (w.setCell ⟨k, i, none⟩ v) g T cs :=
  (heap_setCell_other w ⟨k, i, none⟩ g v (fun e => hne e)).trans h

set_option maxHeartbeats 8000000 in
set_option maxRecDepth 100000 in
theorem eof_any (v : Value) (l : List (Bs × Bs)) (now : Int) (w : World) (hN : NamH w) (hs : IsFlds w v l) (hz : sumF l ≤ 1000000) (hl : l.length ≤ 1048576) :
    Calls Tryz.prog 50 #[v, .int .i64 now] w fun e w' => e = .returned (ckV (ofC l now)) ∧ Below w.heap.size w w' := by
  have hof : ofC l now = ⟨(oneG (allF l nET)).1, (oneG (allF l nET)).2, oneO (allF l nET), optV (oneV (allF l nLM) now), (oneV (allF l nLM) now).isSome⟩ := rfl
  have HOf := Lib.hid hof
  have HTg : Hid (∀ W : World, Below w.heap.size w W → Calls Tryz.prog 106 #[v] W fun e w' => e = .returned (.tuple #[tgVal (oneG (allF l nET)), .bool (oneO (allF l nET))]) ∧ Below W.heap.size W w') :=
    fun W hb => tagOf_any v l W (isFlds_below hs hb) hz hl
  have HTm : Hid (∀ W : World, Below w.heap.size w W → Calls Tryz.prog 107 #[v, .string (mkS nLM), .int .i64 now] W fun e w' => e = .returned (.tuple #[.int .i64 (optV (oneV (allF l nLM) now)), .bool (oneV (allF l nLM) now).isSome]) ∧ Below W.heap.size W w') :=
    fun W hb => timeOf_any v l nLM now W (hN.later hb) (isFlds_below hs hb) hz hl (by decide)
  obtain ⟨a, cap, rfl⟩ : ∃ a cap, v = .slice a l.length cap := by obtain ⟨a, c, h, -⟩ := hs; exact ⟨a, c, h⟩
  clear hs hN hof
  generalize oneG (allF l nET) = G at *
  generalize oneO (allF l nET) = O at *
  generalize optV (oneV (allF l nLM) now) = tv at *
  generalize (oneV (allF l nLM) now).isSome = tb at *
  generalize ofC l now = C at *
  obtain ⟨gk, gv⟩ := G
  unfold tgVal at HTg
  unfold nLM mkS at HTm
  simp only at HTg HOf
  have h1 := Bx.new w 89 #[.bool false, .string ⟨#[]⟩, .bool false, .int .i64 0, .bool false]
  have b1 : Below w.heap.size w (w.alloc (.cells #[.bool false, .string ⟨#[]⟩, .bool false, .int .i64 0, .bool false] 89)) := (Below.refl _ _).alloc (Nat.le_refl _) _
  have z1 : (w.alloc (.cells #[.bool false, .string ⟨#[]⟩, .bool false, .int .i64 0, .bool false] 89)).heap.size = w.heap.size + 1 := by simp
  have h2 := Bx.new (w.alloc (.cells #[.bool false, .string ⟨#[]⟩, .bool false, .int .i64 0, .bool false] 89)) 89 #[.bool false, .string ⟨#[]⟩, .bool false, .int .i64 0, .bool false]
  have b2 : Below (w.alloc (.cells #[.bool false, .string ⟨#[]⟩, .bool false, .int .i64 0, .bool false] 89)).heap.size (w.alloc (.cells #[.bool false, .string ⟨#[]⟩, .bool false, .int .i64 0, .bool false] 89)) ((w.alloc (.cells #[.bool false, .string ⟨#[]⟩, .bool false, .int .i64 0, .bool false] 89)).alloc (.cells #[.bool false, .string ⟨#[]⟩, .bool false, .int .i64 0, .bool false] 89)) := (Below.refl _ _).alloc (Nat.le_refl _) _
  have h1' := h1.later b2
  have b3 := b1.trans (b2.mono (by simp))
  rw [z1] at h2
  have HX1 := Lib.hid h1'
  have HX2 := Lib.hid h2
  have HB2 := Lib.hid b3
  clear h1 b1 z1 h2 b2 h1' b3
  go_enter Tryz.func50, Tryz.ntmps50
  go_wp2_with fail
  generalize (w.alloc (.cells #[.bool false, .string ⟨#[]⟩, .bool false, .int .i64 0, .bool false] 89)).alloc (.cells #[.bool false, .string ⟨#[]⟩, .bool false, .int .i64 0, .bool false] 89) = W0 at *
  refine (HTg.out _ HB2.out).mono ?_
  rintro e w1 ⟨rfl, hb⟩
  have hX1 := HX1.out.later hb
  have hX2 := HX2.out.later hb
  have HB3 := Lib.hid (HB2.out.trans (hb.mono HB2.out.size))
  clear hb
  have c0 := hX2.cell 0 _ rfl
  have c1 := hX2.cell 1 _ rfl
  have c2 := hX2.cell 2 _ rfl
  have f0 := hX2.frozen 0
  have f1 := hX2.frozen 1
  have f2 := hX2.frozen 2
  have hY2 := bxSet3 hX2 (.bool gk) (.string (mkS gv)) (.bool O)
  have hY1 := bxOther (bxOther (bxOther hX1 (Nat.ne_of_lt (Nat.lt_succ_self _)) 0 (.bool gk)) (Nat.ne_of_lt (Nat.lt_succ_self _)) 1 (.string (mkS gv))) (Nat.ne_of_lt (Nat.lt_succ_self _)) 2 (.bool O)
  have hYB := ((HB3.out.setCell (p := ⟨w.heap.size + 1, 0, none⟩) (Nat.le_succ _) (.bool gk)).setCell (p := ⟨w.heap.size + 1, 1, none⟩) (Nat.le_succ _) (.string (mkS gv))).setCell (p := ⟨w.heap.size + 1, 2, none⟩) (Nat.le_succ _) (.bool O)
  have HY2 := Lib.hid hY2
  have HY1 := Lib.hid hY1
  have HYB := Lib.hid hYB
  clear hX1 hX2 hY2 hY1 hYB HX1 HX2
  go_wp2_with fail
  generalize ((w1.setCell ⟨w.heap.size + 1, 0, none⟩ (.bool gk)).setCell ⟨w.heap.size + 1, 1, none⟩ (.string (mkS gv))).setCell ⟨w.heap.size + 1, 2, none⟩ (.bool O) = w4 at *
  clear c0 c1 c2 f0 f1 f2 HB3
  refine (HTm.out _ HYB.out).mono ?_
  rintro e w5 ⟨rfl, hb⟩
  have hX1 := HY1.out.later hb
  have hX2 := HY2.out.later hb
  have HB5 := Lib.hid (HYB.out.trans (hb.mono HYB.out.size))
  clear hb
  have c3 := hX2.cell 3 _ rfl
  have c4 := hX2.cell 4 _ rfl
  have f3 := hX2.frozen 3
  have f4 := hX2.frozen 4
  have hZ2 := bxSet2 hX2 (.int .i64 tv) (.bool tb)
  have hZ1 := bxOther (bxOther hX1 (Nat.ne_of_lt (Nat.lt_succ_self _)) 3 (.int .i64 tv)) (Nat.ne_of_lt (Nat.lt_succ_self _)) 4 (.bool tb)
  have hZB := (HB5.out.setCell (p := ⟨w.heap.size + 1, 3, none⟩) (Nat.le_succ _) (.int .i64 tv)).setCell (p := ⟨w.heap.size + 1, 4, none⟩) (Nat.le_succ _) (.bool tb)
  have HZB := Lib.hid hZB
  obtain ⟨w6, hw6⟩ : ∃ w6, w6 = (w5.setCell ⟨w.heap.size + 1, 3, none⟩ (.int .i64 tv)).setCell ⟨w.heap.size + 1, 4, none⟩ (.bool tb) := ⟨_, rfl⟩
  rw [← hw6] at hZ2 hZ1 HZB
  have HW6 := Lib.hid hw6
  have d0 := hZ2.cell 0 _ rfl
  have d1 := hZ2.cell 1 _ rfl
  have d2 := hZ2.cell 2 _ rfl
  have d3 := hZ2.cell 3 _ rfl
  have d4 := hZ2.cell 4 _ rfl
  have k0 := hZ1.cell 0 _ rfl
  have k1 := hZ1.cell 1 _ rfl
  have k2 := hZ1.cell 2 _ rfl
  have k3 := hZ1.cell 3 _ rfl
  have k4 := hZ1.cell 4 _ rfl
  have l0 := hZ1.frozen 0
  have l1 := hZ1.frozen 1
  have l2 := hZ1.frozen 2
  have l3 := hZ1.frozen 3
  have l4 := hZ1.frozen 4
  have hE : Bx (((((w6.setCell ⟨w.heap.size, 0, none⟩ (.bool gk)).setCell ⟨w.heap.size, 1, none⟩ (.string (mkS gv))).setCell ⟨w.heap.size, 2, none⟩ (.bool O)).setCell ⟨w.heap.size, 3, none⟩ (.int .i64 tv)).setCell ⟨w.heap.size, 4, none⟩ (.bool tb)) w.heap.size 89 #[.bool gk, .string (mkS gv), .bool O, .int .i64 tv, .bool tb] := ((((hZ1.set 0 _).set 1 _).set 2 _).set 3 _).set 4 _
  have hEB := ((((HZB.out.setCell (p := ⟨w.heap.size, 0, none⟩) (Nat.le_refl _) (.bool gk)).setCell (p := ⟨w.heap.size, 1, none⟩) (Nat.le_refl _) (.string (mkS gv))).setCell (p := ⟨w.heap.size, 2, none⟩) (Nat.le_refl _) (.bool O)).setCell (p := ⟨w.heap.size, 3, none⟩) (Nat.le_refl _) (.int .i64 tv)).setCell (p := ⟨w.heap.size, 4, none⟩) (Nat.le_refl _) (.bool tb)
  have HE := Lib.hid hE
  have HEB := Lib.hid hEB
  clear hX1 hX2 hZ2 hZ1 hZB hE hEB hw6 HY1 HY2 HYB
  go_upto_region 4 with (fail)
  rw [← HW6.out]
  go_wp2_with fail
  refine bodyPost_ret (v := .agg #[.bool gk, .string (mkS gv), .bool O, .int .i64 tv, .bool tb]) ?_ rfl ⟨ckRet HOf.out, HEB.out⟩
  exact results_cell_row rfl _ _ w.heap.size 89 _ (0, 0) _ rfl HE.out Tryz.underlying89 rfl (by kernel_rfl)
/-! Ask -/
theorem delAll_step (l : List (Bs × Bs)) (i : Nat) (hi : i < 6) : delAll (nWs.take (i + 1)) l = delF (nWs.getD i []) (delAll (nWs.take i) l) := by
  rcases (by omega : i = 0 ∨ i = 1 ∨ i = 2 ∨ i = 3 ∨ i = 4 ∨ i = 5) with rfl | rfl | rfl | rfl | rfl | rfl <;> rfl
theorem delAll_mem : ∀ (L : List Bs) (l : List (Bs × Bs)) (f : Bs × Bs), f ∈ delAll L l → f ∈ l
  | [], _, _, h => h
  | n :: L, l, f, h => (List.mem_filter.1 (delAll_mem L (delF n l) f h)).1
theorem delAll_len : ∀ (L : List Bs) (l : List (Bs × Bs)), (delAll L l).length ≤ l.length
  | [], _ => Nat.le_refl _
  | n :: L, l => Nat.le_trans (delAll_len L (delF n l)) (delF_len n l)
theorem own_notBx {w : World} {B n g : Nat} {v : Value} {xs : List Value} {cs : Array Value} (h : w.ownsRow B 31 2 v n xs) (hX : Bx w g 89 cs) : v.ownBlock ≠ some g := by
  intro e
  rcases h.2 with ⟨hv, -⟩ | ⟨k, cap, cur, hv, -, hg, -⟩
  · rw [hv] at e; cases e
  · rw [hv] at e
    injection e with e
    subst e
    unfold Bx at hX
    rw [hX] at hg
    injection hg with hg
    injection hg with _ h2
    exact absurd h2 (by decide)
theorem own_nilE {w : World} {B n : Nat} {v : Value} {xs : List Value} {e : TypeId} (h : w.ownsRow B e 2 v n xs) : ∀ m c, v = .slice none m c → c = 0 := by
  intro m c hv
  rcases h.2 with ⟨h2, -⟩ | ⟨g, cap, cur, h2, -⟩
  · rw [h2] at hv; injection hv with _ _ h3; exact h3.symm
  · rw [h2] at hv; injection hv with h3; cases h3
def nWA : Array Value := #[.string ⟨#[73, 102, 45, 77, 97, 116, 99, 104]⟩, .string ⟨#[73, 102, 45, 78, 111, 110, 101, 45, 77, 97, 116, 99, 104]⟩, .string ⟨#[73, 102, 45, 77, 111, 100, 105, 102, 105, 101, 100, 45, 83, 105, 110, 99, 101]⟩, .string ⟨#[73, 102, 45, 85, 110, 109, 111, 100, 105, 102, 105, 101, 100, 45, 83, 105, 110, 99, 101]⟩, .string ⟨#[73, 102, 45, 82, 97, 110, 103, 101]⟩, .string ⟨#[82, 97, 110, 103, 101]⟩]
theorem idx_nW (k : Nat) (hk : k < 6) (w : World) : (Instr.index 163 (.agg nWA) (.int .i64 (k : Int))).run Tryz.prog w = .ok (.string (mkS (nWs.getD k []))) w := by
  have e : nWA[k]? = some (.string (mkS (nWs.getD k []))) := by
    rcases (by omega : k = 0 ∨ k = 1 ∨ k = 2 ∨ k = 3 ∨ k = 4 ∨ k = 5) with rfl | rfl | rfl | rfl | rfl | rfl <;> rfl
  rcases (by omega : k = 0 ∨ k = 1 ∨ k = 2 ∨ k = 3 ∨ k = 4 ∨ k = 5) with rfl | rfl | rfl | rfl | rfl | rfl <;> (simp [Instr.index, asIntOf, run_underlying Tryz.underlying163, part, Tryz.sizeOf9, nWA, go_sem, nWs, nIM, nINM, nIMS, nIUS, nIR, nRa, mkS])

/-- Ask's result -/
def AskPost (L : List (Bs × Bs)) (w : World) (e : Ending) (w' : World) : Prop := ∃ v', e = .returned v' ∧ w'.ownsRow w.heap.size 31 2 v' L.length (fcells L) ∧ Below w.heap.size w w'

set_option maxHeartbeats 16000000 in
set_option maxRecDepth 100000 in
theorem eask_any (v : Value) (l : List (Bs × Bs)) (c : Ck) (w : World) (hN : NamH w) (hs : IsFlds w v l) (hnl : ∀ n c, v = .slice none n c → c = 0) (hz : ∀ f ∈ l, f.1.length ≤ 1099511627776 ∧ f.2.length ≤ 1099511627776) (hl : l.length ≤ 100000)
    (hv : c.v.length ≤ 1000000) (ha : -9223372036854775808 ≤ c.a ∧ c.a ≤ 9223372036854775807) :
    Calls Tryz.prog 52 #[v, ckV c] w (AskPost (askL l c) w) := by
  have hb0 : Below w.heap.size w (w.alloc (.cells (ckA c) 89)) := (Below.refl _ _).alloc (Nat.le_refl _) _
  have hBx := Bx.new w 89 (ckA c)
  have hS0 := isFlds_below hs hb0
  have HFm : Hid (∀ W : World, Below w.heap.size w W → Calls Tryz.prog 109 #[.int .i64 c.a] W (FmtPost c.a W)) := fun W hb => format_any c.a W ha (hN.later hb)
  have HTx := Lib.hid (fun W : World => ttext_any (c.w, c.v) W (by simp only; omega))
  have HDl : Hid (∀ (v : Value) (i : Nat) (W : World), IsFlds W v (delAll (nWs.take i) l) → (∀ n c, v = .slice none n c → c = 0) → i < 6 → Calls Tryz.prog 108 #[v, .string (mkS (nWs.getD i []))] W (OwnPost (delAll (nWs.take (i + 1)) l) W)) := by
    intro v i W h1 h2 hi
    rw [delAll_step l i hi]
    exact fdel_any v _ _ W h1 h2 (fun f hf => hz f (delAll_mem _ _ f hf)) (by
      rcases (by omega : i = 0 ∨ i = 1 ∨ i = 2 ∨ i = 3 ∨ i = 4 ∨ i = 5) with rfl | rfl | rfl | rfl | rfl | rfl <;> decide) (Nat.le_trans (delAll_len _ _) (by omega))
  have HIx := Lib.hid idx_nW
  have hask : askL l c = delAll nWs l ++ askA c ++ askZ c := rfl
  have HAsk := Lib.hid hask
  have hdl : (delAll nWs l).length ≤ 100000 := Nat.le_trans (delAll_len _ _) hl
  have hA : askA c = if (c.h && opq c.v) = true then [(nINM, tgT (c.w, c.v))] else [] := rfl
  have hZ : askZ c = if (c.b && okT c.a) = true then [(nIMS, fmtL c.a)] else [] := rfl
  have hTe : tgTE (c.w, c.v) = if opq c.v then 0 else 4 := rfl
  have hCe : civE c.a = if okT c.a = true then 0 else 2 := rfl
  have HA := Lib.hid hA
  have HZ := Lib.hid hZ
  have HTe := Lib.hid hTe
  have HCe := Lib.hid hCe
  have h6 : nWs.take 6 = nWs := rfl
  have H6 := Lib.hid h6
  have HNW : Hid (nWA = #[.string ⟨#[73, 102, 45, 77, 97, 116, 99, 104]⟩, .string ⟨#[73, 102, 45, 78, 111, 110, 101, 45, 77, 97, 116, 99, 104]⟩, .string ⟨#[73, 102, 45, 77, 111, 100, 105, 102, 105, 101, 100, 45, 83, 105, 110, 99, 101]⟩, .string ⟨#[73, 102, 45, 85, 110, 109, 111, 100, 105, 102, 105, 101, 100, 45, 83, 105, 110, 99, 101]⟩, .string ⟨#[73, 102, 45, 82, 97, 110, 103, 101]⟩, .string ⟨#[82, 97, 110, 103, 101]⟩]) := rfl
  obtain ⟨a, cap, rfl⟩ : ∃ a cap, v = .slice a l.length cap := by obtain ⟨a, c, h, -⟩ := hs; exact ⟨a, c, h⟩
  have HNl := Lib.hid hnl
  have HS0 := Lib.hid hS0
  have HB0 := Lib.hid hb0
  have HX0 := Lib.hid hBx
  clear hb0 hBx hs hnl hS0 hz hN hask hA hZ hTe hCe h6
  unfold FmtPost at HFm
  unfold OwnPost at HDl
  unfold AskPost
  generalize askL l c = R at *
  generalize askA c = RA at *
  generalize askZ c = RZ at *
  generalize tgTE (c.w, c.v) = te at *
  generalize tgT (c.w, c.v) = tt at *
  generalize civE c.a = ce at *
  generalize fmtL c.a = ft at *
  generalize okT c.a = ok at *
  generalize opq c.v = op at *
  obtain ⟨cw, cv, ch, ca, cb⟩ := c
  unfold ckV ckA at *
  unfold tgVal at HTx
  simp only at *
  rw [HNW.out] at HIx
  go_enter Tryz.func52, Tryz.ntmps52
  go_wp2_with fail
  generalize w.alloc (.cells #[.bool cw, .string (mkS cv), .bool ch, .int .i64 ca, .bool cb] 89) = W0 at *
  go_loopw [5, 14] (fun v5 vi wr => ∃ i : Nat, i ≤ 6 ∧ vi = .int .i64 i ∧ Hid (IsFlds wr v5 (delAll (nWs.take i) l)) ∧ Hid (∀ n c, v5 = .slice none n c → c = 0) ∧ Hid (i ≠ 0 → wr.ownsRow w.heap.size 31 2 v5 (delAll (nWs.take i) l).length (fcells (delAll (nWs.take i) l))) ∧ Hid (Bx wr w.heap.size 89 #[.bool cw, .string (mkS cv), .bool ch, .int .i64 ca, .bool cb]) ∧ Hid (Below w.heap.size w wr)) (fun _ vi _ => 6 - (RowKit.intOf vi).toNat)
  case atStart => exact ⟨0, Nat.zero_le _, rfl, HS0, HNl, fun h => absurd rfl h, HX0, HB0⟩
  case round =>
    obtain ⟨i, hi, rfl, HS, HNL, HO, HX, HB⟩ := hrel
    rename World => W
    clear HS0 HNl HB0 HX0
    by_cases hlt : i < 6
    · have hix := HIx.out i hlt W
      have HD := Lib.hid (HDl.out u5 i W HS.out HNL.out hlt)
      generalize nWs.getD i [] = nm at *
      have g0 : (0 : Int) ≤ (i : Int) := by omega
      have g1 : (i : Int) < 6 := by omega
      clear HIx HDl HTx HFm
      go_wp2_with fail
      refine HD.out.mono ?_
      rintro e w1 ⟨v1, rfl, ho, hb⟩
      have HB1 := Lib.hid (HB.out.trans (hb.mono HB.out.size))
      have HX1 := Lib.hid (HX.out.later hb)
      have HS1 := Lib.hid (isFlds_own ho)
      have HN1 := Lib.hid (own_nilE ho)
      have ho2 := own_base ho HB.out.size
      have HO1 : Hid (i + 1 ≠ 0 → w1.ownsRow w.heap.size 31 2 v1 (delAll (nWs.take (i + 1)) l).length (fcells (delAll (nWs.take (i + 1)) l))) := fun _ => ho2
      clear ho hb ho2
      go_wp2_with fail
      exact ⟨⟨i + 1, hlt, by go_num, HS1, HN1, HO1, HX1, HB1⟩, by simp [RowKit.intOf]; omega⟩
    · obtain rfl : i = 6 := by omega
      have ho := HO.out (by decide)
      rw [H6.out] at ho
      have HO6 := Lib.hid ho
      have c0 := HX.out.cell 0 _ rfl
      have c1 := HX.out.cell 1 _ rfl
      have HTx1 := Lib.hid (HTx.out W)
      clear HIx HDl HS HNL HO ho HTx H6
      generalize delAll nWs l = D at *
      go_wp2_with fail
      refine HTx1.out.mono ?_
      rintro e w1 ⟨rfl, hb⟩
      have HB1 := Lib.hid (HB.out.trans (hb.mono HB.out.size))
      have HX1 := Lib.hid (HX.out.later hb)
      have HO1 := Lib.hid (own_keepT HO6.out hb)
      clear hb c0 c1 HX HB HO6 HTx1
      have k2 := HX1.out.cell 2 _ rfl
      have k3 := HX1.out.cell 3 _ rfl
      have k4 := HX1.out.cell 4 _ rfl
      cases ch
      · have HRA : Hid (RA = []) := by show _ = _; rw [HA.out]; rfl
        go_upto_region 10 with (fail)
        have HFm1 := Lib.hid (HFm.out w1 HB1.out)
        go_wp2_with fail
        refine HFm1.out.mono ?_
        rintro e wf ⟨rfl, hb⟩
        have HBf := Lib.hid (HB1.out.trans (hb.mono HB1.out.size))
        have HOf := Lib.hid (own_keepT HO1.out hb)
        have HXf := Lib.hid (HX1.out.later hb)
        have m4 := HXf.out.cell 4 _ rfl
        clear hb k2 k3 k4 HFm1 HFm
        cases cb
        · have HR : Hid (R = D) := by show _ = _; rw [HAsk.out, HZ.out, HRA.out]; simp
          go_wp2_with fail
          go_ret
          exact ⟨_, rfl, by rw [HR.out]; exact HOf.out, HBf.out⟩
        · cases ok
          · have HE : Hid (ce = 2) := by show _ = _; rw [HCe.out]; rfl
            have HR : Hid (R = D) := by show _ = _; rw [HAsk.out, HZ.out, HRA.out]; simp
            have hne : (ce == 0) = false := by rw [HE.out]; rfl
            go_wp2_with fail
            go_ret
            exact ⟨_, rfl, by rw [HR.out]; exact HOf.out, HBf.out⟩
          · have HE : Hid (ce = 0) := by show _ = _; rw [HCe.out]; rfl
            have HR : Hid (R = D ++ [(nIMS, ft)]) := by show _ = _; rw [HAsk.out, HZ.out, HRA.out]; simp
            have hne : (ce == 0) = true := by rw [HE.out]; rfl
            have hblz : Below wf.heap.size wf (wf.alloc (Obj.cells #[.string ⟨#[73, 102, 45, 77, 111, 100, 105, 102, 105, 101, 100, 45, 83, 105, 110, 99, 101]⟩, .string (mkS ft)] 31)) := (Below.refl _ _).alloc (Nat.le_refl _) _
            have HOz := Lib.hid (own_keepT HOf.out hblz)
            have HFz : Hid (IsFlds (wf.alloc (Obj.cells #[.string ⟨#[73, 102, 45, 77, 111, 100, 105, 102, 105, 101, 100, 45, 83, 105, 110, 99, 101]⟩, .string (mkS ft)] 31)) (.slice (some ⟨wf.heap.size, 0, none⟩) 1 1) [(nIMS, ft)]) := isFlds_litE wf nIMS ft
            have HBz := Lib.hid (HBf.out.trans (hblz.mono HBf.out.size))
            have HXz := Lib.hid (HXf.out.later hblz)
            have hsz : w.heap.size ≤ (wf.alloc (Obj.cells #[.string ⟨#[73, 102, 45, 77, 111, 100, 105, 102, 105, 101, 100, 45, 83, 105, 110, 99, 101]⟩, .string (mkS ft)] 31)).heap.size := HBz.out.size
            clear hblz
            go_wp2_with (at_builtin; refine joinF_guarded (by rfl) _ _ rfl w.heap.size _ _ D [(nIMS, ft)] rfl rfl HOz.out HFz.out (fun _ _ h => by injection h with h1; cases h1) hsz (by first | omega | (simp; omega)) (by simp) ?_)
            intro v8 w8 ho8 hg8
            have HB8 := Lib.hid (HBz.out.trans (below_of_grownF hg8 HOz.out hsz))
            have HO8 := Lib.hid ho8
            clear ho8 hg8
            go_wp2_with fail
            go_ret
            exact ⟨_, rfl, by rw [HR.out, List.length_append]; exact HO8.out, HB8.out⟩
      · cases op
        · have HRA : Hid (RA = []) := by show _ = _; rw [HA.out]; rfl
          have HE1 : Hid (te = 4) := by show _ = _; rw [HTe.out]; rfl
          have hne1 : (te == 0) = false := by rw [HE1.out]; rfl
          go_upto_region 10 with (fail)
          have HFm1 := Lib.hid (HFm.out w1 HB1.out)
          go_wp2_with fail
          refine HFm1.out.mono ?_
          rintro e wf ⟨rfl, hb⟩
          have HBf := Lib.hid (HB1.out.trans (hb.mono HB1.out.size))
          have HOf := Lib.hid (own_keepT HO1.out hb)
          have HXf := Lib.hid (HX1.out.later hb)
          have m4 := HXf.out.cell 4 _ rfl
          clear hb k2 k3 k4 HFm1 HFm
          cases cb
          · have HR : Hid (R = D) := by show _ = _; rw [HAsk.out, HZ.out, HRA.out]; simp
            go_wp2_with fail
            go_ret
            exact ⟨_, rfl, by rw [HR.out]; exact HOf.out, HBf.out⟩
          · cases ok
            · have HE : Hid (ce = 2) := by show _ = _; rw [HCe.out]; rfl
              have HR : Hid (R = D) := by show _ = _; rw [HAsk.out, HZ.out, HRA.out]; simp
              have hne : (ce == 0) = false := by rw [HE.out]; rfl
              go_wp2_with fail
              go_ret
              exact ⟨_, rfl, by rw [HR.out]; exact HOf.out, HBf.out⟩
            · have HE : Hid (ce = 0) := by show _ = _; rw [HCe.out]; rfl
              have HR : Hid (R = D ++ [(nIMS, ft)]) := by show _ = _; rw [HAsk.out, HZ.out, HRA.out]; simp
              have hne : (ce == 0) = true := by rw [HE.out]; rfl
              have hblz : Below wf.heap.size wf (wf.alloc (Obj.cells #[.string ⟨#[73, 102, 45, 77, 111, 100, 105, 102, 105, 101, 100, 45, 83, 105, 110, 99, 101]⟩, .string (mkS ft)] 31)) := (Below.refl _ _).alloc (Nat.le_refl _) _
              have HOz := Lib.hid (own_keepT HOf.out hblz)
              have HFz : Hid (IsFlds (wf.alloc (Obj.cells #[.string ⟨#[73, 102, 45, 77, 111, 100, 105, 102, 105, 101, 100, 45, 83, 105, 110, 99, 101]⟩, .string (mkS ft)] 31)) (.slice (some ⟨wf.heap.size, 0, none⟩) 1 1) [(nIMS, ft)]) := isFlds_litE wf nIMS ft
              have HBz := Lib.hid (HBf.out.trans (hblz.mono HBf.out.size))
              have HXz := Lib.hid (HXf.out.later hblz)
              have hsz : w.heap.size ≤ (wf.alloc (Obj.cells #[.string ⟨#[73, 102, 45, 77, 111, 100, 105, 102, 105, 101, 100, 45, 83, 105, 110, 99, 101]⟩, .string (mkS ft)] 31)).heap.size := HBz.out.size
              clear hblz
              go_wp2_with (at_builtin; refine joinF_guarded (by rfl) _ _ rfl w.heap.size _ _ D [(nIMS, ft)] rfl rfl HOz.out HFz.out (fun _ _ h => by injection h with h1; cases h1) hsz (by first | omega | (simp; omega)) (by simp) ?_)
              intro v8 w8 ho8 hg8
              have HB8 := Lib.hid (HBz.out.trans (below_of_grownF hg8 HOz.out hsz))
              have HO8 := Lib.hid ho8
              clear ho8 hg8
              go_wp2_with fail
              go_ret
              exact ⟨_, rfl, by rw [HR.out, List.length_append]; exact HO8.out, HB8.out⟩
        · have HRA : Hid (RA = [(nINM, tt)]) := by show _ = _; rw [HA.out]; rfl
          have HE1 : Hid (te = 0) := by show _ = _; rw [HTe.out]; rfl
          have hne1 : (te == 0) = true := by rw [HE1.out]; rfl
          have hbly : Below w1.heap.size w1 (w1.alloc (Obj.cells #[.string ⟨#[73, 102, 45, 78, 111, 110, 101, 45, 77, 97, 116, 99, 104]⟩, .string (mkS tt)] 31)) := (Below.refl _ _).alloc (Nat.le_refl _) _
          have HOy := Lib.hid (own_keepT HO1.out hbly)
          have HFy : Hid (IsFlds (w1.alloc (Obj.cells #[.string ⟨#[73, 102, 45, 78, 111, 110, 101, 45, 77, 97, 116, 99, 104]⟩, .string (mkS tt)] 31)) (.slice (some ⟨w1.heap.size, 0, none⟩) 1 1) [(nINM, tt)]) := isFlds_litE w1 nINM tt
          have HBy := Lib.hid (HB1.out.trans (hbly.mono HB1.out.size))
          have HXy := Lib.hid (HX1.out.later hbly)
          have hsy : w.heap.size ≤ (w1.alloc (Obj.cells #[.string ⟨#[73, 102, 45, 78, 111, 110, 101, 45, 77, 97, 116, 99, 104]⟩, .string (mkS tt)] 31)).heap.size := HBy.out.size
          clear hbly
          go_wp2_with (at_builtin; refine joinF_guarded (by rfl) _ _ rfl w.heap.size _ _ D [(nINM, tt)] rfl rfl HOy.out HFy.out (fun _ _ h => by injection h with h1; cases h1) hsy (by omega) (by simp) ?_)
          intro v7 w7 ho7 hg7
          have HB7 := Lib.hid (HBy.out.trans (below_of_grownF hg7 HOy.out hsy))
          have HX7 := Lib.hid (HXy.out.grown hg7 (fun e => own_notBx HOy.out HXy.out e.symm))
          obtain ⟨D2, hD2⟩ : ∃ D2, D2 = D ++ [(nINM, tt)] := ⟨_, rfl⟩
          have HO7 : Hid (w7.ownsRow w.heap.size 31 2 v7 D2.length (fcells D2)) := by
            show World.ownsRow _ _ _ _ _ _ _
            rw [hD2, List.length_append]; exact ho7
          have hdl2 : D2.length ≤ 100001 := by rw [hD2, List.length_append]; simp; omega
          have HD2 := Lib.hid hD2
          clear hD2
          clear ho7 hg7 k2 k3 k4
          have k3 := HX7.out.cell 3 _ rfl
          have k4 := HX7.out.cell 4 _ rfl
          have k2 := HX7.out.cell 2 _ rfl
          go_upto_region 10 with (fail)
          have HFm1 := Lib.hid (HFm.out w7 HB7.out)
          go_wp2_with fail
          refine HFm1.out.mono ?_
          rintro e wf ⟨rfl, hb⟩
          have HBf := Lib.hid (HB7.out.trans (hb.mono HB7.out.size))
          have HOf := Lib.hid (own_keepT HO7.out hb)
          have HXf := Lib.hid (HX7.out.later hb)
          have m4 := HXf.out.cell 4 _ rfl
          clear hb k2 k3 k4 HFm1 HFm
          cases cb
          · have HR : Hid (R = D2) := by show _ = _; rw [HAsk.out, HZ.out, HRA.out, HD2.out]; simp
            go_wp2_with fail
            go_ret
            exact ⟨_, rfl, by rw [HR.out]; exact HOf.out, HBf.out⟩
          · cases ok
            · have HE : Hid (ce = 2) := by show _ = _; rw [HCe.out]; rfl
              have HR : Hid (R = D2) := by show _ = _; rw [HAsk.out, HZ.out, HRA.out, HD2.out]; simp
              have hne : (ce == 0) = false := by rw [HE.out]; rfl
              go_wp2_with fail
              go_ret
              exact ⟨_, rfl, by rw [HR.out]; exact HOf.out, HBf.out⟩
            · have HE : Hid (ce = 0) := by show _ = _; rw [HCe.out]; rfl
              have HR : Hid (R = D2 ++ [(nIMS, ft)]) := by show _ = _; rw [HAsk.out, HZ.out, HRA.out, HD2.out]; simp
              have hne : (ce == 0) = true := by rw [HE.out]; rfl
              have hblz : Below wf.heap.size wf (wf.alloc (Obj.cells #[.string ⟨#[73, 102, 45, 77, 111, 100, 105, 102, 105, 101, 100, 45, 83, 105, 110, 99, 101]⟩, .string (mkS ft)] 31)) := (Below.refl _ _).alloc (Nat.le_refl _) _
              have HOz := Lib.hid (own_keepT HOf.out hblz)
              have HFz : Hid (IsFlds (wf.alloc (Obj.cells #[.string ⟨#[73, 102, 45, 77, 111, 100, 105, 102, 105, 101, 100, 45, 83, 105, 110, 99, 101]⟩, .string (mkS ft)] 31)) (.slice (some ⟨wf.heap.size, 0, none⟩) 1 1) [(nIMS, ft)]) := isFlds_litE wf nIMS ft
              have HBz := Lib.hid (HBf.out.trans (hblz.mono HBf.out.size))
              have HXz := Lib.hid (HXf.out.later hblz)
              have hsz : w.heap.size ≤ (wf.alloc (Obj.cells #[.string ⟨#[73, 102, 45, 77, 111, 100, 105, 102, 105, 101, 100, 45, 83, 105, 110, 99, 101]⟩, .string (mkS ft)] 31)).heap.size := HBz.out.size
              clear hblz
              go_wp2_with (at_builtin; refine joinF_guarded (by rfl) _ _ rfl w.heap.size _ _ D2 [(nIMS, ft)] rfl rfl HOz.out HFz.out (fun _ _ h => by injection h with h1; cases h1) hsz (by first | omega | (simp; omega)) (by simp) ?_)
              intro v8 w8 ho8 hg8
              have HB8 := Lib.hid (HBz.out.trans (below_of_grownF hg8 HOz.out hsz))
              have HO8 := Lib.hid ho8
              clear ho8 hg8
              go_wp2_with fail
              go_ret
              exact ⟨_, rfl, by rw [HR.out, List.length_append]; exact HO8.out, HB8.out⟩
end Tk
end Go.Proofs.YthooghgiokgdhaaGreatDoor
namespace Go.Proofs.YthooghgiokgdhaaGreatDoor
open Go.RowKit
namespace Tk

def leapB (y : Int) : Bool := (y % 4 == 0) && (!(y % 100 == 0) || (y % 400 == 0))
theorem leap_mD (y : Int) : mD y 2 = if leapB y = true then 29 else 28 := by
  unfold leapB mD lpB
  rw [if_neg (by omega), if_pos rfl]
  simp only [Bool.and_eq_true, Bool.or_eq_true, Bool.not_eq_true', beq_iff_eq, beq_eq_false_iff_ne]
  split
  · omega
  · omega

end Tk
end Go.Proofs.YthooghgiokgdhaaGreatDoor
namespace Go.Proofs.YthooghgiokgdhaaGreatDoor
open Go.RowKit
namespace Tk

/-- a list of texts in a block of its own -/
def StrB (W : World) (g : Nat) (l : List Bs) : Prop := W.heap[g]? = some (.cells ((l.map fun x => Value.string (mkS x)).toArray) 9 (0, 0))
theorem StrB.later {w w' : World} {g : Nat} {l : List Bs} (h : StrB w g l) (hb : Below w.heap.size w w') : StrB w' g l := by
  have hl := (Array.getElem?_eq_some_iff.1 h).1
  unfold StrB at *; rw [hb.block g hl]; exact h
theorem StrB.cell {w : World} {g : Nat} {l : List Bs} (h : StrB w g l) (k : Nat) (hk : k < l.length) : w.cell? ⟨g, k, none⟩ = some (.string (mkS (l.getD k []))) := by
  unfold StrB at h
  rw [Lib.cell_of_heap h]
  simp [List.getD, hk]
def ListNPost (l : List Bs) (w : World) (e : Ending) (w' : World) : Prop := ∃ g, e = .returned (.slice (some ⟨g, 0, none⟩) l.length l.length) ∧ w.heap.size ≤ g ∧ g < w'.heap.size ∧ StrB w' g l ∧ Below w.heap.size w w'

end Tk
end Go.Proofs.YthooghgiokgdhaaGreatDoor
namespace Go.Proofs.YthooghgiokgdhaaGreatDoor
open Go.RowKit
namespace Tk

/-- the digits at some places, or -1 -/
def rnum (s : Bs) (a b : Nat) : Int := if b ≤ s.length ∧ ((s.drop a).take (b - a)).all isDig = true then (valFrom 0 ((s.drop a).take (b - a)) : Int) else -1
theorem rnum_bad {s : Bs} {a b i : Nat} (h1 : a ≤ i) (h2 : i < b) (h : s.length ≤ i ∨ (i < s.length ∧ isDig (s.getD i 0) = false)) : rnum s a b = -1 := by
  unfold rnum
  rw [if_neg]
  rintro ⟨hb, hall⟩
  rcases h with h | ⟨h3, h4⟩
  · omega
  · have hm : s.getD i 0 ∈ (s.drop a).take (b - a) := by
      rw [List.mem_iff_getElem?]
      refine ⟨i - a, ?_⟩
      rw [List.getElem?_take, if_pos (by omega), List.getElem?_drop, show a + (i - a) = i by omega]
      simp [List.getD, h3]
    have := List.all_eq_true.1 hall _ hm
    rw [h4] at this; cases this
theorem rnum_go {s : Bs} {a b : Nat} (h : b ≤ s.length) (hd : ∀ i, a ≤ i → i < b → isDig (s.getD i 0) = true) : rnum s a b = (valFrom 0 ((s.drop a).take (b - a)) : Int) := by
  unfold rnum
  rw [if_pos]
  refine ⟨h, List.all_eq_true.2 fun x hx => ?_⟩
  obtain ⟨k, hk⟩ := List.mem_iff_getElem?.1 hx
  rw [List.getElem?_take] at hk
  split at hk
  · rw [List.getElem?_drop] at hk
    have hlt : a + k < s.length := by
      refine Nat.lt_of_not_le fun hle => ?_
      rw [List.getElem?_eq_none hle] at hk; cases hk
    have := hd (a + k) (by omega) (by omega)
    simpa [List.getD, hk] using this
  · cases hk
theorem slice_next {s : Bs} {a i : Nat} (h1 : a ≤ i) (h2 : i < s.length) : (s.drop a).take (i + 1 - a) = (s.drop a).take (i - a) ++ [s.getD i 0] := by
  rw [show i + 1 - a = (i - a) + 1 by omega, take_snoc _ _ (by rw [List.length_drop]; omega)]
  congr 2
  simp [List.getD, List.getElem?_drop, show a + (i - a) = i by omega]
end Tk
end Go.Proofs.YthooghgiokgdhaaGreatDoor
