/- HopB HopC HopD FrmA FrmB FrmC EmA ChkM, put together. -/
import Derived.Test.YtdlbmfgajgefdaaGreatDoorQD
import Derived.Test.YtdlbmfgajgefdaaGreatDoorQB
import Derived.Laws.Tables
import Derived.Laws.CopyOwn
import Derived.Test.YtdlbmfgajgefdaaGreatDoorQA
import Derived.BigQuiet
import Derived.Test.YtdlbmfgajgefdaaGreatDoorQC
import Derived.Laws.BytesString
import Derived.WalkSmall
namespace Go.Proofs.YtdlbmfgajgefdaaGreatDoor
open Go.RowKit
namespace Tk

theorem opts_any (v : Value) (l : List (Bs × Bs)) (w : World) (hs : IsFlds w v l) (hz : sumF l ≤ 1000000) (hl : l.length ≤ 1048576) :
    Calls Tryz.prog 68 #[v] w (ListPost w.heap.size (listF l cnB) w) := by
  have HL := Lib.hid (flist_any v l cnB w hs hz (by decide) hl)
  unfold ListPost at HL ⊢
  clear hs
  go_enter Tryz.func68, Tryz.ntmps68
  go_wp2_with fail
  refine HL.out.mono ?_
  rintro e w1 ⟨v', rfl, ho, hb⟩
  have HO := Lib.hid ho
  have HB := Lib.hid hb
  clear ho hb
  go_wp2_with fail
  go_ret
  exact ⟨v', rfl, HO.out, HB.out⟩

theorem gone_len (l : List (Bs × Bs)) : (hopL ++ (listF l cnB).map lowL).length ≤ 7 + sumF l := by
  have := listF_len cnB l
  rw [List.length_append, List.length_map]
  show 7 + _ ≤ _
  omega

/-- what a round of the copying loop keeps -/
def Cpy (B g gr cap : Nat) (K : List (Bs × Bs)) (f : Bs × Bs) (W w' : World) : Prop :=
  w'.ownsRow B 32 2 (.slice (some ⟨gr, 0, none⟩) K.length cap) K.length (fcells K) ∧ Below B W w' ∧ Two w' g 32 (.string (mkS f.1)) (.string (mkS f.2))

set_option maxHeartbeats 16000000 in
set_option maxRecDepth 100000 in
theorem without_any (v vm : Value) (l : List (Bs × Bs)) (more : List Bs) (w : World) (hs : IsFlds w v l) (hnl : ∀ n c, v = .slice none n c → c = 0) (hm : IsStrs w vm more) (hvm : ∀ k, vm.ownBlock = some k → k < w.heap.size)
    (hmz : ∀ x ∈ more, x.length ≤ 1099511627776) (hml : more.length ≤ 1000) (hz : sumF l ≤ 1000000) (hl : l.length ≤ 1048576) :
    Calls Tryz.prog 58 #[v, vm] w (OwnPost (withL more l) w) := by
  have hz2 := sum_each l (by omega)
  have HA := Lib.hid (always_any w)
  have hlen0 := gone_len l
  have hq := listF_len cnB l
  have hgs : goneS more l = hopL ++ (listF l cnB).map lowL ++ more.map lowL := rfl
  have hwl : withL more l = wipe (goneS more l) l := rfl
  have HOpt : Hid (∀ (W : World) (g b : Nat), Below w.heap.size w W → HasM W g b hopL → Calls Tryz.prog 68 #[v] W fun e w' => ∃ v', e = .returned v' ∧ w'.cell? ⟨g, 0, none⟩ = some (.map (some b)) ∧ Below w.heap.size w w' ∧ SetIs w' b hopL ∧ IsStrs w' v' (listF l cnB) ∧ v'.ownBlock ≠ some b) := by
    intro W g b hb hM
    refine (opts_any v l W (isFlds_below hs hb) hz hl).mono ?_
    rintro e w' ⟨v', rfl, ho, hb'⟩
    have hM' := hM.later hb'
    refine ⟨v', rfl, hM'.1, hb.trans (hb'.mono hb.size), hM'.2, isStrs_own ho, fun e => ?_⟩
    have := (ho.lt b e).1
    have := hM.2.lt
    omega
  have HAdd : Hid (∀ (W : World) (g b : Nat) (v' : Value), w.heap.size ≤ b → g ≠ b → Below w.heap.size w W → W.cell? ⟨g, 0, none⟩ = some (.map (some b)) → SetIs W b hopL → IsStrs W v' (listF l cnB) → v'.ownBlock ≠ some b →
      Calls Tryz.prog 67 #[.map (some b), v'] W fun e w' => e = .returned (.tuple #[]) ∧ w'.cell? ⟨g, 0, none⟩ = some (.map (some b)) ∧ Below w.heap.size w w' ∧ SetIs w' b (hopL ++ (listF l cnB).map lowL)) := by
    intro W g b v' hbb hgb hb hc hS hv hn
    refine (add_any b hopL (listF l cnB) v' W hS hv hn (fun x hx => by have := listF_piece cnB l x hx; omega) (by omega) (by decide)).mono ?_
    rintro e w' ⟨rfl, h1, h2⟩
    exact ⟨rfl, h2.cell hc (by intro e; injection e with e; exact hgb e), hb.trans (below_of_set h2 hbb hb.size), h1⟩
  have HMor : Hid (∀ (W : World) (g b : Nat), w.heap.size ≤ b → g ≠ b → Below w.heap.size w W → W.cell? ⟨g, 0, none⟩ = some (.map (some b)) → SetIs W b (hopL ++ (listF l cnB).map lowL) →
      Calls Tryz.prog 67 #[.map (some b), vm] W fun e w' => e = .returned (.tuple #[]) ∧ HasM w' g b (goneS more l) ∧ Below w.heap.size w w') := by
    intro W g b hbb hgb hb hc hS
    refine (add_any b _ more vm W hS (isStrs_later hm hb hvm) (fun e => by have := hvm b e; omega) hmz (by omega) (by omega)).mono ?_
    rintro e w' ⟨rfl, h1, h2⟩
    exact ⟨rfl, ⟨h2.cell hc (by intro e; injection e with e; exact hgb e), by rw [hgs]; exact h1⟩, hb.trans (below_of_set h2 hbb hb.size)⟩
  have HCl : Hid (∀ (W : World), Below w.heap.size w W → Calls Tryz.prog 93 #[v] W (OwnPost l W)) := fun W hb => sclone_any v l W (isFlds_below hs hb) hnl hl
  have HDel : Hid (∀ (W : World) (v1 : Value) (g b B : Nat), W.ownsRow B 32 2 v1 l.length (fcells l) → B ≤ W.heap.size → HasM W g b (goneS more l) → v1.ownBlock ≠ some g → v1.ownBlock ≠ some b →
      Calls Tryz.prog 92 #[v1, setV g] W (WipePost B (goneS more l) l W)) := fun W v1 g b B ho hB hM h1 h2 => delw_any v1 l (goneS more l) g b B W ho hB hM h1 h2 hz2 hl
  have HWL := Lib.hid hwl
  have hzk : ∀ f ∈ withL more l, f.1.length ≤ 1099511627776 ∧ f.2.length ≤ 1099511627776 := fun f hf => hz2 f (wipe_mem _ _ _ hf).1
  have HZK := Lib.hid hzk
  have hlk : (withL more l).length ≤ 1048576 := Nat.le_trans (wipe_len _ _) hl
  obtain ⟨a, cap, rfl⟩ : ∃ a cap, v = .slice a l.length cap := by obtain ⟨a, c, h, -⟩ := hs; exact ⟨a, c, h⟩
  obtain ⟨am, nm, cm, rfl⟩ : ∃ a n c, vm = .slice a n c := by obtain ⟨a, c, h, -⟩ := hm; exact ⟨a, _, c, h⟩
  unfold OwnPost at HCl ⊢
  unfold WipePost at HDel
  clear hs hnl hm hvm hmz hml hz hlen0 hq hgs hwl hz2 hzk
  generalize goneS more l = G at *
  generalize hopL ++ (listF l cnB).map lowL = G1 at *
  generalize listF l cnB = Q at *
  unfold setV at HDel
  go_enter Tryz.func58, Tryz.ntmps58
  go_wp2_with fail
  refine HA.out.mono ?_
  rintro e w1 ⟨rfl, h1, hb⟩
  have hb1 : Below w1.heap.size w1 (w1.alloc (Obj.cells #[.map (some w.heap.size)] 74)) := (Below.refl _ _).alloc (Nat.le_refl _) _
  have HS1 := Lib.hid (h1.later hb1)
  have HB1 := Lib.hid (hb.trans (hb1.mono hb.size))
  have HC1 : Hid ((w1.alloc (Obj.cells #[.map (some w.heap.size)] 74)).cell? ⟨w1.heap.size, 0, none⟩ = some (.map (some w.heap.size))) := by
    rw [Lib.cell_of_heap (heap_alloc_last w1 _)]; rfl
  have hgb : w1.heap.size ≠ w.heap.size := by have := h1.lt; omega
  have hgz : w1.heap.size < (w1.alloc (Obj.cells #[.map (some w.heap.size)] 74)).heap.size := by simp
  clear h1 hb hb1 HA
  go_wp2_with fail
  generalize w1.alloc (Obj.cells #[.map (some w.heap.size)] 74) = w2 at *
  generalize w1.heap.size = g at *
  have hq1 : w2.cell? ⟨g, 0, none⟩ = some (.map (some w.heap.size)) := HC1.out
  have hB2d : Below w.heap.size w w2.drew := HB1.out.drew
  have hc2d : w2.drew.cell? ⟨g, 0, none⟩ = some (.map (some w.heap.size)) := HC1.out
  have hs2d : SetIs w2.drew w.heap.size hopL := HS1.out
  go_region_held3 (fun w' => w'.cell? ⟨g, 0, none⟩ = some (.map (some w.heap.size))) (first | go_keep | exact (by assumption)) (first
    | (go_at_call 68; refine (HOpt.out _ g w.heap.size (by assumption) ⟨by assumption, by assumption⟩).mono ?_; rintro e w' ⟨v', rfl, hc', hb', hs', hv', hn'⟩)
    | (go_at_call 67; refine (HAdd.out _ g w.heap.size _ (Nat.le_refl _) hgb (by assumption) (by assumption) (by assumption) (by assumption) (by assumption)).mono ?_; rintro e w5 ⟨rfl, hc5, hb5, hs5⟩))
  go_ways
  have HB5 := Lib.hid hb5
  have HC5 := Lib.hid hc5
  have HS5 := Lib.hid hs5
  have hsz5 := hb5.size
  clear hc' hb' hs' hv' hn' hb5 hc5 hs5 hB2d hc2d hs2d hq1
  have hq5 : w5.cell? ⟨g, 0, none⟩ = some (.map (some w.heap.size)) := HC5.out
  have HM5 := Lib.hid (HMor.out w5 g w.heap.size (Nat.le_refl _) hgb HB5.out HC5.out HS5.out)
  go_wp2_with fail
  refine HM5.out.mono ?_
  rintro e w6 ⟨rfl, hM, hb⟩
  have HM6 := Lib.hid hM
  have HB6 := Lib.hid hb
  have HC6 := Lib.hid (HCl.out w6 hb)
  have hsz6 := hb.size
  have hg6 : g < w6.heap.size := cell_lt (p := ⟨g, 0, none⟩) hM.1
  have hw6 : w.heap.size < w6.heap.size := hM.2.lt
  clear hM hb hq5
  go_wp2_with fail
  refine HC6.out.mono ?_
  rintro e w7 ⟨v7, rfl, ho, hb⟩
  have HM7 := Lib.hid (HM6.out.later hb)
  have HD7 := Lib.hid (HDel.out w7 v7 g w.heap.size w.heap.size (own_base ho hsz6) (Nat.le_trans hsz6 hb.size) HM7.out (fun e => by have := (ho.lt g e).1; omega) (fun e => by have := (ho.lt _ e).1; omega))
  have HB7 := Lib.hid (HB6.out.trans (hb.mono hsz6))
  clear ho hb
  go_wp2_with fail
  refine HD7.out.mono ?_
  rintro e w8 ⟨v8, rfl, ho, hb⟩
  have HB8 := Lib.hid (HB7.out.trans hb)
  rw [← HWL.out] at ho
  have HO8 := Lib.hid ho
  obtain ⟨a8, c8, rfl⟩ : ∃ a c, v8 = .slice a (withL more l).length c := by obtain ⟨a, c, h, -⟩ := isFlds_own ho; exact ⟨a, c, h⟩
  clear ho hb HDel HCl HMor HAdd HOpt HD7 HC6 HM5 HM7 HM6 HWL
  generalize hKK : withL more l = K at *
  have HKK := Lib.hid hKK
  clear hKK
  go_wp2_with fail
  go_loopw [23] (fun vi wr => ∃ i : Nat, i ≤ K.length ∧ vi = .int .i64 i ∧ Hid (wr.ownsRow w.heap.size 32 2 (.slice a8 K.length c8) K.length (fcells K)) ∧ Hid (Below w.heap.size w wr)) (fun vi _ => K.length - (RowKit.intOf vi).toNat)
  case atStart => exact ⟨0, Nat.zero_le _, rfl, HO8, HB8⟩
  case round =>
    obtain ⟨i, hi, rfl, HO, HB⟩ := hrel
    rename World => W
    by_cases hlt : i < K.length
    · obtain ⟨gr, hgr, rfl⟩ : ∃ gr, w.heap.size ≤ gr ∧ a8 = some ⟨gr, 0, none⟩ := by
        rcases HO.out.2 with ⟨hv, hn⟩ | ⟨gr, cap, cur, hv, hb, -⟩
        · omega
        · injection hv with e1 e2 e3
          exact ⟨gr, hb, e1⟩
      have hm := HZK.out (K.getD i ([], [])) (by simp [List.getD, hlt])
      have hget := fcells_get K i (K.getD i ([], [])) (by simp [List.getD, hlt])
      have hset : ((fcells K).set (i * 2) (.string (mkS (K.getD i ([], [])).1))).set (i * 2 + 1) (.string (mkS (K.getD i ([], [])).2)) = fcells K := by
        apply List.ext_getElem?
        intro j
        rw [List.getElem?_set, List.getElem?_set]
        have hlc := fcells_len K
        split
        · rename_i h; subst h; rw [hget.2]; simp; omega
        · split
          · rename_i h; subst h; rw [hget.1]; simp; omega
          · rfl
      have hk0 := HO.out.cellAt (i * 2) (by omega)
      have hk1 := HO.out.cellAt (i * 2 + 1) (by omega)
      rw [hget.1] at hk0
      rw [hget.2] at hk1
      have HSet := Lib.hid hset
      have HGet := Lib.hid hget
      clear hget hset
      generalize K.getD i ([], []) = f at *
      obtain ⟨n, x⟩ := f
      simp only at hm hk0 hk1
      have HF0 := Lib.hid (Two.new W 32 (.string (mkS n)) (.string (mkS x)))
      have hb0 : Below W.heap.size W (W.alloc (Obj.cells #[.string (mkS n), .string (mkS x)] 32)) := (Below.refl _ _).alloc (Nat.le_refl _) _
      have HO1 := Lib.hid (own_keep2f HO.out hb0)
      have HB1 := Lib.hid (HB.out.trans (hb0.mono HB.out.size))
      have g0 : (0 : Int) ≤ (i : Int) := by omega
      have g1 : (i : Int) < (K.length : Int) := by omega
      have hs0 : w.heap.size ≤ (W.alloc (Obj.cells #[.string (mkS n), .string (mkS x)] 32)).heap.size := hb0.size |> Nat.le_trans HB.out.size
      have hne : W.heap.size ≠ gr := by have := (HO.out.lt gr rfl).2; omega
      clear hb0
      go_wp2_with fail
      generalize W.alloc (Obj.cells #[.string (mkS n), .string (mkS x)] 32) = W4 at *
      generalize W.heap.size = g5 at *
      have HC1 : Hid (∀ w', Cpy w.heap.size g5 gr c8 K (n, x) W4 w' → Calls Tryz.prog 52 #[.string (mkS n)] w' fun e w'' => e = .returned (.string (mkS n)) ∧ Cpy w.heap.size g5 gr c8 K (n, x) W4 w'') := by
        rintro w' ⟨h1, h2, h3⟩
        refine (clone_any (mkS n) w' (by rw [size_mkS]; exact hm.1)).mono ?_
        rintro e w'' ⟨rfl, hb⟩
        exact ⟨rfl, own_keep2f h1 hb, h2.trans (hb.mono (Nat.le_trans hs0 h2.size)), h3.later hb⟩
      have HC2 : Hid (∀ w', Cpy w.heap.size g5 gr c8 K (n, x) W4 w' → Calls Tryz.prog 52 #[.string (mkS x)] w' fun e w'' => e = .returned (.string (mkS x)) ∧ Cpy w.heap.size g5 gr c8 K (n, x) W4 w'') := by
        rintro w' ⟨h1, h2, h3⟩
        refine (clone_any (mkS x) w' (by rw [size_mkS]; exact hm.2)).mono ?_
        rintro e w'' ⟨rfl, hb⟩
        exact ⟨rfl, own_keep2f h1 hb, h2.trans (hb.mono (Nat.le_trans hs0 h2.size)), h3.later hb⟩
      refine wp_plan (fun _ w' => Cpy w.heap.size g5 gr c8 K (n, x) W4 w') 10 (by kernel_rfl) (by kernel_rfl) ⟨HO1.out, (Below.refl _ _).drew, HF0.out⟩ rfl ?_
      refine plan_val (i := 0) (v := ?_) rfl (by kernel_rfl) (by kernel_rfl) (by rfl) (by kernel_rfl) (fun b w hSw => ?_) ?_
      case refine_2 => (go_simp; try with_reducible rfl)
      try simp only [Act.put, List.getElem_toArray, List.getElem_cons_zero, List.setIfInBounds_toArray, List.set_cons_zero, List.set_cons_succ]
      refine plan_val (i := 1) (v := ?_) rfl (by kernel_rfl) (by kernel_rfl) (by rfl) (by kernel_rfl) (fun b w hSw => ?_) ?_
      case refine_2 => (go_simp; try with_reducible rfl)
      try simp only [Act.put, List.getElem_toArray, List.getElem_cons_succ, List.getElem_cons_zero, List.setIfInBounds_toArray, List.set_cons_zero, List.set_cons_succ]
      refine plan_val (i := 2) (v := ?_) rfl (by kernel_rfl) (by kernel_rfl) (by rfl) (by kernel_rfl) (fun b w hSw => ?_) ?_
      case refine_2 => (go_simp; try with_reducible rfl)
      try simp only [Act.put, List.getElem_toArray, List.getElem_cons_succ, List.getElem_cons_zero, List.setIfInBounds_toArray, List.set_cons_zero, List.set_cons_succ]
      refine plan_val (i := 3) (v := ?_) rfl (by kernel_rfl) (by kernel_rfl) (by rfl) (by kernel_rfl) (fun b w hSw => ?_) ?_
      case refine_2 => (have q0 := hSw.2.2.c0; have q1 := hSw.2.2.c1; go_simp; try with_reducible rfl)
      try simp only [Act.put, List.getElem_toArray, List.getElem_cons_succ, List.getElem_cons_zero, List.setIfInBounds_toArray, List.set_cons_zero, List.set_cons_succ]
      refine plan_call (i := 4) (v := .string (mkS n)) 52 #[.string (mkS n)] rfl (by kernel_rfl) (by kernel_rfl) (by rfl) (by kernel_rfl) (fun w => ?_) (fun b w hSw => ?_) ?_
      case refine_1 => (go_simp; try with_reducible rfl)
      case refine_2 => (exact (HC1.out w hSw))
      try simp only [Act.put, List.getElem_toArray, List.getElem_cons_succ, List.getElem_cons_zero, List.setIfInBounds_toArray, List.set_cons_zero, List.set_cons_succ]
      refine plan_val (i := 5) (v := ?_) rfl (by kernel_rfl) (by kernel_rfl) (by rfl) (by kernel_rfl) (fun b w hSw => ?_) ?_
      case refine_2 => (go_simp; try with_reducible rfl)
      try simp only [Act.put, List.getElem_toArray, List.getElem_cons_succ, List.getElem_cons_zero, List.setIfInBounds_toArray, List.set_cons_zero, List.set_cons_succ]
      refine plan_val (i := 6) (v := ?_) rfl (by kernel_rfl) (by kernel_rfl) (by rfl) (by kernel_rfl) (fun b w hSw => ?_) ?_
      case refine_2 => (have q0 := hSw.2.2.c0; have q1 := hSw.2.2.c1; go_simp; try with_reducible rfl)
      try simp only [Act.put, List.getElem_toArray, List.getElem_cons_succ, List.getElem_cons_zero, List.setIfInBounds_toArray, List.set_cons_zero, List.set_cons_succ]
      refine plan_call (i := 7) (v := .string (mkS x)) 52 #[.string (mkS x)] rfl (by kernel_rfl) (by kernel_rfl) (by rfl) (by kernel_rfl) (fun w => ?_) (fun b w hSw => ?_) ?_
      case refine_1 => (go_simp; try with_reducible rfl)
      case refine_2 => (exact (HC2.out w hSw))
      try simp only [Act.put, List.getElem_toArray, List.getElem_cons_succ, List.getElem_cons_zero, List.setIfInBounds_toArray, List.set_cons_zero, List.set_cons_succ]
      refine plan_val (i := 8) (v := ?_) rfl (by kernel_rfl) (by kernel_rfl) (by rfl) (by kernel_rfl) (fun b w hSw => ?_) ?_
      case refine_2 => (go_simp; try with_reducible rfl)
      try simp only [Act.put, List.getElem_toArray, List.getElem_cons_succ, List.getElem_cons_zero, List.setIfInBounds_toArray, List.set_cons_zero, List.set_cons_succ]
      refine plan_val (i := 9) (v := ?_) rfl (by kernel_rfl) (by kernel_rfl) (by rfl) (by kernel_rfl) (fun b w hSw => ?_) ?_
      case refine_2 => (go_simp; try with_reducible rfl)
      try simp only [Act.put, List.getElem_toArray, List.getElem_cons_succ, List.getElem_cons_zero, List.setIfInBounds_toArray, List.set_cons_zero, List.set_cons_succ]
      refine plan_store rfl (by kernel_rfl) (by kernel_rfl) (by kernel_rfl) (fun w' hSw => ?_) ?_
      case refine_1 =>
        have k0 := hSw.1.cellAt (i * 2) (by omega)
        have k1 := hSw.1.cellAt (i * 2 + 1) (by omega)
        rw [HGet.out.1] at k0
        rw [HGet.out.2] at k1
        have f0 := hSw.1.frozenAt (i * 2)
        have f1 := hSw.1.frozenAt (i * 2 + 1)
        have k2 : (w'.setCell ⟨gr, i * 2, none⟩ (.string (mkS n))).cell? ⟨gr, i * 2 + 1, none⟩ = some (.string (mkS x)) := by
          rw [World.cell?_setCell_other (w := w') (a := ⟨gr, i * 2, none⟩) (b := ⟨gr, i * 2 + 1, none⟩) (h := by intro e; injection e with _ e2; omega)]; exact k1
        refine ⟨(w'.setCell ⟨gr, i * 2, none⟩ (.string (mkS n))).setCell ⟨gr, i * 2 + 1, none⟩ (.string (mkS x)), ?_, ?_⟩
        · go_simp
          try with_reducible rfl
        · have h1 := (hSw.1.stored (i * 2) (.string (mkS n))).1
          have h2 := (h1.stored (i * 2 + 1) (.string (mkS x))).1
          rw [HSet.out] at h2
          exact ⟨h2, (hSw.2.1.setCell (p := ⟨gr, i * 2, none⟩) hgr _).setCell (p := ⟨gr, i * 2 + 1, none⟩) hgr _, ((Below.heap_setCell _ _ _ _ hne).trans ((Below.heap_setCell _ _ _ _ hne).trans hSw.2.2))⟩
      try simp only [Act.put, List.getElem_toArray, List.getElem_cons_succ, List.getElem_cons_zero]
      refine Plan.fin (by kernel_rfl) (fun w5 hS5 => ?_)
      have HO5 := Lib.hid hS5.1
      have HB5 := Lib.hid (HB1.out.trans hS5.2.1)
      clear hS5
      go_wp2_with fail
      exact ⟨⟨i + 1, hlt, by go_num, HO5, HB5⟩, by simp [RowKit.intOf]; omega⟩
    · obtain rfl : i = K.length := by omega
      go_wp2_with fail
      go_ret
      refine ⟨_, rfl, ?_, HB.out⟩
      rw [HKK.out]
      exact HO.out

set_option maxHeartbeats 1000000 in
theorem strip_any (v : Value) (l : List (Bs × Bs)) (w : World) (hs : IsFlds w v l) (hnl : ∀ n c, v = .slice none n c → c = 0) (hz : sumF l ≤ 1000000) (hl : l.length ≤ 1048576) :
    Calls Tryz.prog 15 #[v] w (OwnPost (stripL l) w) := by
  have HW := Lib.hid (without_any v (.slice none 0 0) l [] w hs hnl ⟨none, 0, rfl, fun j t hj => by simp at hj⟩ (fun k e => by simp [Value.ownBlock] at e) (by simp) (by simp) hz hl)
  have HSt : Hid (stripL l = withL [] l) := rfl
  unfold OwnPost at HW ⊢
  clear hs hnl
  go_enter Tryz.func15, Tryz.ntmps15
  go_wp2_with fail
  refine HW.out.mono ?_
  rintro e w1 ⟨v', rfl, ho, hb⟩
  have HO := Lib.hid ho
  have HB := Lib.hid hb
  clear ho hb
  go_wp2_with fail
  go_ret
  refine ⟨v', rfl, ?_, HB.out⟩
  rw [HSt.out]
  exact HO.out
end Tk
end Go.Proofs.YtdlbmfgajgefdaaGreatDoor
namespace Go.Proofs.YtdlbmfgajgefdaaGreatDoor
open Go.RowKit
namespace Tk

theorem viaS_eq (minor : Int) (name : Bs) : (⟨#[49, 46]⟩ : ByteArray) ++ mkS (digI minor) ++ ⟨#[32]⟩ ++ mkS name = mkS (viaS minor name) := by
  rw [show (⟨#[49, 46]⟩ : ByteArray) = mkS [49, 46] from rfl, show (⟨#[32]⟩ : ByteArray) = mkS [32] from rfl, mkS_append, mkS_append, mkS_append]; rfl
theorem viaV_eq (j : Bs) (x : Bs) : mkS j ++ ⟨#[44, 32]⟩ ++ mkS x = mkS (j ++ [44, 32] ++ x) := by
  rw [show (⟨#[44, 32]⟩ : ByteArray) = mkS [44, 32] from rfl, mkS_append, mkS_append]

/-- what strconv.Itoa does -/
def ItoaAt (n : Int) (w : World) : Prop := Calls Tryz.prog 61 #[.int .i64 n] w fun e w' => e = .returned (.string (mkS (digI n))) ∧ Below w.heap.size w w'

set_option maxHeartbeats 4000000 in
set_option maxRecDepth 100000 in
theorem via_any (v : Value) (l : List (Bs × Bs)) (minor : Int) (name : Bs) (w : World) (hs : IsFlds w v l) (hz : sumF l ≤ 1000000) (hl : l.length ≤ 1048575) (hn : name.length ≤ 1000000) (hd : (digI minor).length ≤ 100) (HI0 : ItoaAt minor w) :
    Calls Tryz.prog 17 #[v, .int .i64 minor, .string (mkS name)] w (OwnPost (viaL l minor name) w) := by
  have HI := Lib.hid HI0
  have hsz1 : (mkS (digI minor)).size ≤ 100 := by rw [size_mkS]; exact hd
  have hsz2 : (mkS name).size ≤ 1000000 := by rw [size_mkS]; exact hn
  have hjl := joinB_le viB l
  have hsz3 : (mkS (joinB (allF l viB))).size ≤ 1000000 := by rw [size_mkS]; omega
  have HG : Hid (∀ W : World, Below w.heap.size w W → Calls Tryz.prog 62 #[v, .string ⟨#[86, 105, 97]⟩] W fun e w' => e = .returned (.tuple #[.string (mkS (joinB (allF l viB))), .bool (decide (0 < (allF l viB).length))]) ∧ Below W.heap.size W w') :=
    fun W hb => fget_any v l viB W (isFlds_below hs hb) (by omega) (by decide) (by omega)
  have hvs : (viaS minor name).length ≤ 1000103 := by unfold viaS; simp; omega
  have hST : ∀ (W : World) (x : Bs), Below w.heap.size w W → x.length ≤ 1099511627776 → Calls Tryz.prog 63 #[v, .string ⟨#[86, 105, 97]⟩, .string (mkS x)] W (OwnPost (setF viB x l) W) :=
    fun W x hb hx => fset_any v l viB x W (isFlds_below hs hb) (sum_each l (by omega)) (by decide) hx hl
  obtain ⟨a, cap, rfl⟩ : ∃ a cap, v = .slice a l.length cap := by obtain ⟨a, c, h, -⟩ := hs; exact ⟨a, c, h⟩
  unfold ItoaAt at HI
  by_cases hp : 0 < (allF l viB).length
  · have hv : viaL l minor name = setF viB (joinB (allF l viB) ++ [44, 32] ++ viaS minor name) l := by unfold viaL viaV; rw [if_pos hp]
    have HST : Hid (∀ W : World, Below w.heap.size w W → Calls Tryz.prog 63 #[.slice a l.length cap, .string ⟨#[86, 105, 97]⟩, .string (mkS (joinB (allF l viB)) ++ ⟨#[44, 32]⟩ ++ (⟨#[49, 46]⟩ ++ mkS (digI minor) ++ ⟨#[32]⟩ ++ mkS name))] W (OwnPost (viaL l minor name) W)) := by
      intro W hb
      rw [viaS_eq, viaV_eq, hv]
      exact hST W _ hb (by simp; omega)
    rw [decide_eq_true hp] at HG
    unfold OwnPost at HST ⊢
    clear hs hz hl hn hd HI0 hjl hvs hST hp hv
    generalize mkS (joinB (allF l viB)) = J at *
    generalize mkS (digI minor) = D at *
    generalize mkS name = N at *
    go_enter Tryz.func17, Tryz.ntmps17
    go_wp2_with fail
    refine HI.out.mono ?_
    rintro e w1 ⟨rfl, hb⟩
    have HB1 := Lib.hid hb
    have HG1 := Lib.hid (HG.out w1 hb)
    clear hb
    go_wp2_with fail
    refine HG1.out.mono ?_
    rintro e w2 ⟨rfl, hb⟩
    have hb2 := HB1.out.trans (hb.mono HB1.out.size)
    have HB2 := Lib.hid hb2
    have HS2 := Lib.hid (HST.out w2 hb2)
    clear hb hb2 HST HG HG1
    go_wp2_with fail
    refine HS2.out.mono ?_
    rintro e w3 ⟨v3, rfl, ho, hb⟩
    have HO3 := Lib.hid (own_base ho HB2.out.size)
    have HB3 := Lib.hid (HB2.out.trans (hb.mono HB2.out.size))
    clear ho hb
    go_wp2_with fail
    go_ret
    exact ⟨v3, rfl, HO3.out, HB3.out⟩
  · have hv : viaL l minor name = setF viB (viaS minor name) l := by unfold viaL viaV; rw [if_neg hp]
    have HST : Hid (∀ W : World, Below w.heap.size w W → Calls Tryz.prog 63 #[.slice a l.length cap, .string ⟨#[86, 105, 97]⟩, .string (⟨#[49, 46]⟩ ++ mkS (digI minor) ++ ⟨#[32]⟩ ++ mkS name)] W (OwnPost (viaL l minor name) W)) := by
      intro W hb
      rw [viaS_eq, hv]
      exact hST W _ hb (by omega)
    rw [decide_eq_false hp] at HG
    unfold OwnPost at HST ⊢
    clear hs hz hl hn hd HI0 hjl hvs hST hp hv
    generalize mkS (joinB (allF l viB)) = J at *
    generalize mkS (digI minor) = D at *
    generalize mkS name = N at *
    go_enter Tryz.func17, Tryz.ntmps17
    go_wp2_with fail
    refine HI.out.mono ?_
    rintro e w1 ⟨rfl, hb⟩
    have HB1 := Lib.hid hb
    have HG1 := Lib.hid (HG.out w1 hb)
    clear hb
    go_wp2_with fail
    refine HG1.out.mono ?_
    rintro e w2 ⟨rfl, hb⟩
    have hb2 := HB1.out.trans (hb.mono HB1.out.size)
    have HB2 := Lib.hid hb2
    have HS2 := Lib.hid (HST.out w2 hb2)
    clear hb hb2 HST HG HG1
    go_wp2_with fail
    refine HS2.out.mono ?_
    rintro e w3 ⟨v3, rfl, ho, hb⟩
    have HO3 := Lib.hid (own_base ho HB2.out.size)
    have HB3 := Lib.hid (HB2.out.trans (hb.mono HB2.out.size))
    clear ho hb
    go_wp2_with fail
    go_ret
    exact ⟨v3, rfl, HO3.out, HB3.out⟩
end Tk
end Go.Proofs.YtdlbmfgajgefdaaGreatDoor
namespace Go.Proofs.YtdlbmfgajgefdaaGreatDoor
open Go.RowKit
namespace Tk

/-- a message's cells -/
def msgC (M T : ByteArray) (s : Int) (R : ByteArray) (mi : Int) (vf : Value) (B : ByteArray) (vt : Value) : Array Value := #[.string M, .string T, .int .i64 s, .string R, .int .i64 mi, vf, .string B, vt]
/-- block g is a variable with these cells -/
def Box (w : World) (g : Nat) (T : TypeId) (cs : Array Value) : Prop := w.heap[g]? = some (.cells cs T (0, 0))
theorem Box.new (w : World) (T : TypeId) (cs : Array Value) : Box (w.alloc (.cells cs T)) w.heap.size T cs := heap_alloc_last w _
theorem Box.lt {w : World} {g : Nat} {T : TypeId} {cs : Array Value} (h : Box w g T cs) : g < w.heap.size := (Array.getElem?_eq_some_iff.1 h).1
theorem Box.later {w w' : World} {g : Nat} {T : TypeId} {cs : Array Value} (h : Box w g T cs) (hb : Below w.heap.size w w') : Box w' g T cs := (hb.block g h.lt).trans h
theorem Box.cell {w : World} {g : Nat} {T : TypeId} {cs : Array Value} (h : Box w g T cs) (i : Nat) (v : Value) (hv : cs[i]? = some v) : w.cell? ⟨g, i, none⟩ = some v := by rw [Lib.cell_of_heap h]; exact hv

theorem sum_wipe (S : List Bs) : ∀ l : List (Bs × Bs), sumF (wipe S l) ≤ sumF l
  | [] => by simp [wipe, sumF]
  | f :: t => by
    have ih := sum_wipe S t
    have e : wipe S (f :: t) = (if inS S f then [] else [f]) ++ wipe S t := by unfold wipe; cases h : inS S f <;> simp [h]
    rw [e]
    cases inS S f
    · simp [sumF]; omega
    · simp [sumF]; omega
theorem sum_app : ∀ a b : List (Bs × Bs), sumF (a ++ b) = sumF a + sumF b
  | [], b => by simp [sumF]
  | f :: t, b => by rw [List.cons_append, sumF, sumF, sum_app t b]; omega
theorem sum_kept (m : Bs) (l : List (Bs × Bs)) : sumF (keptL m l) ≤ sumF l + 8 := by
  have h1 := sum_wipe (goneS [clB] l) l
  have h2 := sum_wipe (goneS [clB, exB] l) l
  unfold keptL hosL withL
  split
  · omega
  · split
    · omega
    · rw [sum_app]
      show _ + 8 ≤ _
      omega
theorem len_kept (m : Bs) (l : List (Bs × Bs)) : (keptL m l).length ≤ l.length + 1 := by
  have h1 := wipe_len (goneS [clB] l) l
  have h2 := wipe_len (goneS [clB, exB] l) l
  unfold keptL hosL withL
  split
  · omega
  · split
    · omega
    · simp; omega
theorem isFlds_alloc {w : World} {v : Value} {l : List (Bs × Bs)} (h : IsFlds w v l) (o : Obj) : IsFlds (w.alloc o) v l := isFlds_below h ((Below.refl _ _).alloc (Nat.le_refl _) _)
theorem below_alloc (w : World) (o : Obj) : Below w.heap.size w (w.alloc o) := (Below.refl _ _).alloc (Nat.le_refl _) _

set_option maxHeartbeats 8000000 in
set_option maxRecDepth 100000 in
theorem kept_any (M T : ByteArray) (s : Int) (R : ByteArray) (mi : Int) (vf : Value) (B : ByteArray) (vt : Value) (l : List (Bs × Bs)) (w : World) (hs : IsFlds w vf l) (hnl : ∀ n c, vf = .slice none n c → c = 0) (hz : sumF l ≤ 900000) (hl : l.length ≤ 1048570) :
    Calls Tryz.prog 53 #[.agg (msgC M T s R mi vf B vt)] w (OwnPost (keptL (bs M) l) w) := by
  obtain ⟨a, cap, rfl⟩ : ∃ a cap, vf = .slice a l.length cap := by obtain ⟨a, c, h, -⟩ := hs; exact ⟨a, c, h⟩
  have HX := Lib.hid (Box.new w 24 (msgC M T s R mi (.slice a l.length cap) B vt))
  have HB0 := Lib.hid (below_alloc w (.cells (msgC M T s R mi (.slice a l.length cap) B vt) 24))
  have hsz0 : w.heap.size < (w.alloc (.cells (msgC M T s R mi (.slice a l.length cap) B vt) 24)).heap.size := by simp
  have HS := Lib.hid (fun (W : World) (hb : Below w.heap.size w W) => isFlds_below hs hb)
  have c0 : (w.alloc (.cells (msgC M T s R mi (.slice a l.length cap) B vt) 24)).cell? ⟨w.heap.size, 0, none⟩ = some (.string M) := HX.out.cell 0 _ rfl
  have c5 : (w.alloc (.cells (msgC M T s R mi (.slice a l.length cap) B vt) 24)).cell? ⟨w.heap.size, 5, none⟩ = some (.slice a l.length cap) := HX.out.cell 5 _ rfl
  have hs1 : (w.alloc (.cells (msgC M T s R mi (.slice a l.length cap) B vt) 24)).heap.size = w.heap.size + 1 := by simp
  clear hsz0
  have hwd : ∀ (W : World) (more : List Bs) (cs : Array Value) (n : Nat), Below w.heap.size w W → cs = (strs more).toArray → n = more.length → (∀ x ∈ more, x.length ≤ 1099511627776) → more.length ≤ 1000 →
      Calls Tryz.prog 58 #[.slice a l.length cap, .slice (some ⟨W.heap.size, 0, none⟩) n n] (W.alloc (.cells cs 9)) fun e w' => ∃ v', e = .returned v' ∧ w'.ownsRow w.heap.size 32 2 v' (withL more l).length (fcells (withL more l)) ∧ Below w.heap.size w w' := by
    intro W more cs n hb hcs hn hmz hml
    subst hn
    have hb1 := hb.alloc hb.size (.cells cs 9)
    refine (without_any _ _ l more _ (isFlds_below hs hb1) hnl (isStrs_lit W more cs _ _ hcs) (fun k e => ?_) hmz hml (by omega) (by omega)).mono ?_
    · injection e with e
      subst e; simp
    · rintro e w' ⟨v', rfl, ho, hb'⟩
      exact ⟨v', rfl, own_base ho hb1.size, hb1.trans (hb'.mono hb1.size)⟩
  unfold OwnPost
  by_cases hm : M = ⟨#[]⟩
  · subst hm
    have HK : Hid (keptL (bs ⟨#[]⟩) l = withL [clB] l) := by show keptL [] l = _; unfold keptL; rw [if_pos rfl]
    rw [HK.out]
    have HW : Hid (Calls Tryz.prog 58 #[.slice a l.length cap, .slice (some ⟨w.heap.size + 1, 0, none⟩) 1 1] ((w.alloc (.cells (msgC ⟨#[]⟩ T s R mi (.slice a l.length cap) B vt) 24)).alloc (.cells #[.string ⟨#[67, 111, 110, 116, 101, 110, 116, 45, 76, 101, 110, 103, 116, 104]⟩] 9)) fun e w' => ∃ v', e = .returned v' ∧ w'.ownsRow w.heap.size 32 2 v' (withL [clB] l).length (fcells (withL [clB] l)) ∧ Below w.heap.size w w') :=
      by have h := hwd _ [clB] _ 1 HB0.out rfl rfl (by decide) (by decide); rw [hs1] at h; exact h
    clear hwd hs hnl hz hl
    unfold msgC at *
    go_enter Tryz.func53, Tryz.ntmps53
    go_wp2_with fail
    refine HW.out.mono ?_
    rintro e w1 ⟨v1, rfl, ho, hb⟩
    have HO := Lib.hid ho
    have HB := Lib.hid hb
    clear ho hb
    go_wp2_with fail
    go_ret
    exact ⟨v1, rfl, HO.out, HB.out⟩
  · have hmb : bs M ≠ [] := fun e => hm (by rw [← mkS_bs M, e]; rfl)
    have hme : M.toList.isEmpty = false := by rw [toList_bs]; cases h : bs M with | nil => exact absurd h hmb | cons _ _ => rfl
    have HK : Hid (keptL (bs M) l = hosL (withL [clB, exB] l)) := by show keptL _ l = _; unfold keptL; rw [if_neg hmb]
    rw [HK.out]
    have HW : Hid (Calls Tryz.prog 58 #[.slice a l.length cap, .slice (some ⟨w.heap.size + 1, 0, none⟩) 2 2] ((w.alloc (.cells (msgC M T s R mi (.slice a l.length cap) B vt) 24)).alloc (.cells #[.string ⟨#[67, 111, 110, 116, 101, 110, 116, 45, 76, 101, 110, 103, 116, 104]⟩, .string ⟨#[69, 120, 112, 101, 99, 116]⟩] 9)) fun e w' => ∃ v', e = .returned v' ∧ w'.ownsRow w.heap.size 32 2 v' (withL [clB, exB] l).length (fcells (withL [clB, exB] l)) ∧ Below w.heap.size w w') :=
      by have h := hwd _ [clB, exB] _ 2 HB0.out rfl rfl (by decide) (by decide); rw [hs1] at h; exact h
    have hk1 : (withL [clB, exB] l).length ≤ 1048576 := Nat.le_trans (wipe_len _ _) (by omega)
    have hk2 : sumF (withL [clB, exB] l) ≤ 900000 := Nat.le_trans (sum_wipe _ _) hz
    clear hwd hs hnl hz hl hm hmb
    unfold msgC at *
    have hk3 : hosL (withL [clB, exB] l) = if 0 < (allF (withL [clB, exB] l) hoB).length then withL [clB, exB] l else withL [clB, exB] l ++ [(hoB, [])] := rfl
    have HK3 := Lib.hid hk3
    clear hk3 HK
    generalize withL [clB, exB] l = K at *
    have hG : ∀ (W : World) (v : Value), W.ownsRow w.heap.size 32 2 v K.length (fcells K) → Calls Tryz.prog 62 #[v, .string ⟨#[72, 111, 115, 116]⟩] W fun e w' => e = .returned (.tuple #[.string (mkS (joinB (allF K hoB))), .bool (decide (0 < (allF K hoB).length))]) ∧ Below W.heap.size W w' :=
      fun W v ho => fget_any v K hoB W (isFlds_own ho) (by omega) (by decide) hk1
    have HG := Lib.hid hG
    clear hG hk2
    by_cases hp : 0 < (allF K hoB).length
    · rw [if_pos hp] at HK3
      rw [decide_eq_true hp] at HG
      clear hp
      generalize mkS (joinB (allF K hoB)) = J at *
      rw [HK3.out]
      go_enter Tryz.func53, Tryz.ntmps53
      go_wp2_with fail
      refine HW.out.mono ?_
      rintro e w1 ⟨v1, rfl, ho, hb⟩
      have HO := Lib.hid ho
      have HB := Lib.hid hb
      clear ho hb
      go_wp2_with fail
      refine (HG.out _ _ HO.out).mono ?_
      rintro e w2 ⟨rfl, hb⟩
      have HO2 := Lib.hid (own_keep2f HO.out hb)
      have HB2 := Lib.hid (HB.out.trans (hb.mono HB.out.size))
      clear hb
      go_wp2_with fail
      go_ret
      exact ⟨v1, rfl, HO2.out, HB2.out⟩
    · rw [if_neg hp] at HK3
      rw [decide_eq_false hp] at HG
      clear hp
      generalize mkS (joinB (allF K hoB)) = J at *
      rw [HK3.out]
      go_enter Tryz.func53, Tryz.ntmps53
      go_wp2_with fail
      refine HW.out.mono ?_
      rintro e w1 ⟨v1, rfl, ho, hb⟩
      have HO := Lib.hid ho
      have HB := Lib.hid hb
      clear ho hb
      go_wp2_with fail
      refine (HG.out _ _ HO.out).mono ?_
      rintro e w2 ⟨rfl, hb⟩
      have ho2 := own_keep2f HO.out hb
      have hb2 := HB.out.trans (hb.mono HB.out.size)
      have hbal := below_alloc w2 (Obj.cells #[.string (mkS hoB), .string (mkS [])] 32)
      have HO5 := Lib.hid (own_keep2f ho2 hbal)
      have HF5 := Lib.hid (isFlds_lit w2 hoB [])
      have HB5 := Lib.hid (hb2.trans (hbal.mono hb2.size))
      have hs5 := HB5.out.size
      clear hb ho2 hb2 hbal
      go_wp2_with (at_builtin; refine joinF_guarded (by rfl) _ _ rfl w.heap.size _ _ K [(hoB, [])] rfl rfl HO5.out HF5.out (fun _ _ h => by injection h with h1; cases h1) hs5 hk1 (by simp) ?_)
      intro v6 w6 ho6 hg6
      have HB6 := Lib.hid (HB5.out.trans (below_of_grownF hg6 HO5.out hs5))
      have HO6 := Lib.hid ho6
      clear ho6 hg6
      go_wp2_with fail
      go_ret
      exact ⟨v6, rfl, by rw [List.length_append]; exact HO6.out, HB6.out⟩

theorem low_cls : lowL clsB = clsB := by decide
theorem low_kal : lowL kalB = kalB := by decide

set_option maxHeartbeats 8000000 in
set_option maxRecDepth 100000 in
theorem closes_any (M T : ByteArray) (s : Int) (R : ByteArray) (mi : Int) (vf : Value) (B : ByteArray) (vt : Value) (l : List (Bs × Bs)) (w : World) (hs : IsFlds w vf l) (hz : sumF l ≤ 900000) (hl : l.length ≤ 1048570) :
    Calls Tryz.prog 19 #[.agg (msgC M T s R mi vf B vt)] w fun e w' => e = .returned (.bool (closesB l mi)) ∧ Below w.heap.size w w' := by
  obtain ⟨a, cap, rfl⟩ : ∃ a cap, vf = .slice a l.length cap := by obtain ⟨a, c, h, -⟩ := hs; exact ⟨a, c, h⟩
  have hmm := @run_makeMap Tryz.prog
  have hX := Box.new w 24 (msgC M T s R mi (.slice a l.length cap) B vt)
  have hB0 := below_alloc w (.cells (msgC M T s R mi (.slice a l.length cap) B vt) 24)
  have hs1 : (w.alloc (.cells (msgC M T s R mi (.slice a l.length cap) B vt) 24)).heap.size = w.heap.size + 1 := by simp
  have hM := SetIs.made (w.alloc (.cells (msgC M T s R mi (.slice a l.length cap) B vt) 24))
  rw [hs1] at hM
  have hX2 := hX.later (below_alloc _ (.map #[] 0))
  have hB2 := hB0.alloc hB0.size (.map #[] 0)
  have hs2 : ((w.alloc (.cells (msgC M T s R mi (.slice a l.length cap) B vt) 24)).alloc (.map #[] 0)).heap.size = w.heap.size + 2 := by simp
  have c5 : ((w.alloc (.cells (msgC M T s R mi (.slice a l.length cap) B vt) 24)).alloc (.map #[] 0)).cell? ⟨w.heap.size, 5, none⟩ = some (.slice a l.length cap) := hX2.cell 5 _ rfl
  have hop := opts_any _ l _ (isFlds_below hs hB2) (by omega) (by omega)
  have hln := listF_len cnB l
  have hlp := listF_piece cnB l
  have hoS : optS l = (listF l cnB).map lowL := rfl
  have HOpt : Hid (Calls Tryz.prog 68 #[.slice a l.length cap] ((w.alloc (.cells (msgC M T s R mi (.slice a l.length cap) B vt) 24)).alloc (.map #[] 0)) fun e w' => ∃ v', e = .returned v' ∧ IsStrs w' v' (listF l cnB) ∧ v'.ownBlock ≠ some (w.heap.size + 1) ∧ SetIs w' (w.heap.size + 1) [] ∧ Box w' w.heap.size 24 (msgC M T s R mi (.slice a l.length cap) B vt) ∧ Below w.heap.size w w') := by
    refine hop.mono ?_
    rintro e w' ⟨v', rfl, ho, hb⟩
    exact ⟨v', rfl, isStrs_own ho, fun e => by have := (ho.lt _ e).1; omega, hM.later hb, hX2.later hb, hB2.trans (hb.mono (by omega))⟩
  have HAdd : Hid (∀ (W : World) (v' : Value), IsStrs W v' (listF l cnB) → v'.ownBlock ≠ some (w.heap.size + 1) → SetIs W (w.heap.size + 1) [] → Box W w.heap.size 24 (msgC M T s R mi (.slice a l.length cap) B vt) → Below w.heap.size w W →
      Calls Tryz.prog 67 #[.map (some (w.heap.size + 1)), v'] W fun e w' => e = .returned (.tuple #[]) ∧ SetIs w' (w.heap.size + 1) (optS l) ∧ Box w' w.heap.size 24 (msgC M T s R mi (.slice a l.length cap) B vt) ∧ Below w.heap.size w w') := by
    intro W v' hv hn hS hB hb
    refine (add_any (w.heap.size + 1) [] (listF l cnB) v' W hS hv hn (fun x hx => by have := hlp x hx; omega) (by omega) (by simp)).mono ?_
    rintro e w' ⟨rfl, h1, h2⟩
    refine ⟨rfl, by rw [hoS]; exact h1, ?_, hb.trans (below_of_set h2 (by omega) hb.size)⟩
    exact (h2.block _ hB.lt (by intro e; injection e with e; omega)).trans hB
  have HH1 : Hid (∀ W : World, SetIs W (w.heap.size + 1) (optS l) → Calls Tryz.prog 55 #[.map (some (w.heap.size + 1)), .string ⟨#[99, 108, 111, 115, 101]⟩] W fun e w' => e = .returned (.bool (decide (clsB ∈ optS l))) ∧ Below W.heap.size W w') := by
    intro W hS
    have h := has_any (w.heap.size + 1) (optS l) clsB W hS (by decide)
    rw [low_cls] at h
    exact h
  have HH2 : Hid (∀ W : World, SetIs W (w.heap.size + 1) (optS l) → Calls Tryz.prog 55 #[.map (some (w.heap.size + 1)), .string ⟨#[107, 101, 101, 112, 45, 97, 108, 105, 118, 101]⟩] W fun e w' => e = .returned (.bool (decide (kalB ∈ optS l))) ∧ Below W.heap.size W w') := by
    intro W hS
    have h := has_any (w.heap.size + 1) (optS l) kalB W hS (by decide)
    rw [low_kal] at h
    exact h
  have hv : closesB l mi = (decide (clsB ∈ optS l) || (decide (mi = 0) && !decide (kalB ∈ optS l))) := rfl
  rw [hv]
  clear hs hz hl hX hM hX2 hop hln hlp hoS hv hB0 hB2
  generalize decide (clsB ∈ optS l) = d1 at *
  generalize decide (kalB ∈ optS l) = d3 at *
  cases d1
  · by_cases h0 : mi = 0
    · have m0 : (mi == 0) = true := by simp [h0]
      have hd : (false || (decide (mi = 0) && !d3)) = !d3 := by rw [decide_eq_true h0]; rfl
      rw [hd]
      clear hd h0
      go_enter Tryz.func19, Tryz.ntmps19
      go_wp2_with fail
      refine HOpt.out.mono ?_
      rintro e w1 ⟨v1, rfl, hv1, hn1, hS1, hX1, hb1⟩
      have HA1 := Lib.hid (HAdd.out w1 v1 hv1 hn1 hS1 hX1 hb1)
      clear hv1 hn1 hS1 hX1 hb1 c5
      go_wp2_with fail
      refine HA1.out.mono ?_
      rintro e w2 ⟨rfl, hS2, hX2, hb2⟩
      have HH := Lib.hid (HH1.out w2 hS2)
      have HS2 := Lib.hid hS2
      have HX2 := Lib.hid hX2
      have HB2 := Lib.hid hb2
      clear hS2 hX2 hb2 HOpt HAdd HA1
      go_wp2_with fail
      refine HH.out.mono ?_
      rintro e w3 ⟨rfl, hb⟩
      have HB3 := Lib.hid (HB2.out.trans (hb.mono HB2.out.size))
      have c4 : w3.cell? ⟨w.heap.size, 4, none⟩ = some (.int .i64 mi) := (HX2.out.later hb).cell 4 _ rfl
      have HS3 := Lib.hid (HS2.out.later hb)
      clear hb HH
      go_wp2_with fail
      refine (HH2.out w3 HS3.out).mono ?_
      rintro e w4 ⟨rfl, hb⟩
      have HB4 := Lib.hid (HB3.out.trans (hb.mono HB3.out.size))
      clear hb
      go_wp2_with fail
      go_ret
      exact ⟨rfl, HB4.out⟩
    · have m0 : (mi == 0) = false := by simp [h0]
      have hd : (false || (decide (mi = 0) && !d3)) = false := by rw [decide_eq_false h0]; rfl
      rw [hd]
      clear hd h0
      go_enter Tryz.func19, Tryz.ntmps19
      go_wp2_with fail
      refine HOpt.out.mono ?_
      rintro e w1 ⟨v1, rfl, hv1, hn1, hS1, hX1, hb1⟩
      have HA1 := Lib.hid (HAdd.out w1 v1 hv1 hn1 hS1 hX1 hb1)
      clear hv1 hn1 hS1 hX1 hb1 c5
      go_wp2_with fail
      refine HA1.out.mono ?_
      rintro e w2 ⟨rfl, hS2, hX2, hb2⟩
      have HH := Lib.hid (HH1.out w2 hS2)
      have HS2 := Lib.hid hS2
      have HX2 := Lib.hid hX2
      have HB2 := Lib.hid hb2
      clear hS2 hX2 hb2 HOpt HAdd HA1
      go_wp2_with fail
      refine HH.out.mono ?_
      rintro e w3 ⟨rfl, hb⟩
      have HB3 := Lib.hid (HB2.out.trans (hb.mono HB2.out.size))
      have c4 : w3.cell? ⟨w.heap.size, 4, none⟩ = some (.int .i64 mi) := (HX2.out.later hb).cell 4 _ rfl
      have HS3 := Lib.hid (HS2.out.later hb)
      clear hb HH
      go_wp2_with fail
      go_ret
      exact ⟨rfl, HB3.out⟩
  · have hd : (true || (decide (mi = 0) && !d3)) = true := rfl
    rw [hd]
    clear hd
    go_enter Tryz.func19, Tryz.ntmps19
    go_wp2_with fail
    refine HOpt.out.mono ?_
    rintro e w1 ⟨v1, rfl, hv1, hn1, hS1, hX1, hb1⟩
    have HA1 := Lib.hid (HAdd.out w1 v1 hv1 hn1 hS1 hX1 hb1)
    clear hv1 hn1 hS1 hX1 hb1 c5
    go_wp2_with fail
    refine HA1.out.mono ?_
    rintro e w2 ⟨rfl, hS2, hX2, hb2⟩
    have HH := Lib.hid (HH1.out w2 hS2)
    have HS2 := Lib.hid hS2
    have HX2 := Lib.hid hX2
    have HB2 := Lib.hid hb2
    clear hS2 hX2 hb2 HOpt HAdd HA1
    go_wp2_with fail
    refine HH.out.mono ?_
    rintro e w3 ⟨rfl, hb⟩
    have HB3 := Lib.hid (HB2.out.trans (hb.mono HB2.out.size))
    have c4 : w3.cell? ⟨w.heap.size, 4, none⟩ = some (.int .i64 mi) := (HX2.out.later hb).cell 4 _ rfl
    have HS3 := Lib.hid (HS2.out.later hb)
    clear hb HH
    go_wp2_with fail
    go_ret
    exact ⟨rfl, HB3.out⟩
end Tk
end Go.Proofs.YtdlbmfgajgefdaaGreatDoor
namespace Go.Proofs.YtdlbmfgajgefdaaGreatDoor
open Go.RowKit
namespace Tk

theorem results_tmp3' {fn : Func} {t u v : Tmp} (h : fn.results = #[.tmp t, .tmp u, .tmp v]) (tmps : Array Value) (P : Program) (w : World) :
    (results fn tmps).run P w = .ok (.tuple #[tmps.getD t undef, tmps.getD u undef, tmps.getD v undef]) w := by
  simp [results, h]
theorem retB3 {a b : Bool} (h : a = b) : Ending.returned (.bool a) = .returned (.bool b) := by rw [h]
set_option maxHeartbeats 2000000 in
theorem bare_any (m : ByteArray) (s : Int) (w : World) :
    Calls Tryz.prog 111 #[.string m, .int .i64 s] w fun e w' => e = .returned (.bool (bareB (bs m) s)) ∧ w = w' := by
  by_cases hH : bs m = [72, 69, 65, 68]
  · have x1 : (m.toList == [72, 69, 65, 68]) = true := by rw [toList_bs, hH]; rfl
    have HF : Hid (bareB (bs m) s = true) := by show bareB _ _ = true; unfold bareB; simp [hH]
    clear hH
    go_enter Tryz.func111, Tryz.ntmps111
    go_wp2_with fail
    go_ret
    exact ⟨by rw [HF.out]; rfl, rfl⟩
  · have x1 : (m.toList == [72, 69, 65, 68]) = false := by rw [toList_bs]; exact beq_eq_false_iff_ne.2 hH
    have hB : bareB (bs m) s = ((decide (100 ≤ s) && decide (s ≤ 199)) || decide (s = 204) || decide (s = 304) || (decide (bs m = [67, 79, 78, 78, 69, 67, 84]) && decide (200 ≤ s) && decide (s ≤ 299))) := by unfold bareB; simp [hH]
    have hC : bs m = [67, 79, 78, 78, 69, 67, 84] ∧ (m.toList == [67, 79, 78, 78, 69, 67, 84]) = true ∨ bs m ≠ [67, 79, 78, 78, 69, 67, 84] ∧ (m.toList == [67, 79, 78, 78, 69, 67, 84]) = false := by
      by_cases hc : bs m = [67, 79, 78, 78, 69, 67, 84]
      · exact .inl ⟨hc, by rw [toList_bs, hc]; rfl⟩
      · exact .inr ⟨hc, by rw [toList_bs]; exact beq_eq_false_iff_ne.2 hc⟩
    clear hH
    have e204 : s = 204 ∧ (s == 204) = true ∨ s ≠ 204 ∧ (s == 204) = false := by
      by_cases h : s = 204
      · exact .inl ⟨h, by rw [h]; rfl⟩
      · exact .inr ⟨h, beq_eq_false_iff_ne.2 h⟩
    have e304 : s = 304 ∧ (s == 304) = true ∨ s ≠ 304 ∧ (s == 304) = false := by
      by_cases h : s = 304
      · exact .inl ⟨h, by rw [h]; rfl⟩
      · exact .inr ⟨h, beq_eq_false_iff_ne.2 h⟩
    rcases e204 with ⟨h2, b2⟩ | ⟨h2, b2⟩ <;> rcases e304 with ⟨h3, b3⟩ | ⟨h3, b3⟩ <;> rcases hC with ⟨hc, bc⟩ | ⟨hc, bc⟩ <;> by_cases k0 : 100 ≤ s <;> by_cases k1 : s ≤ 199 <;> by_cases k2 : 200 ≤ s <;> by_cases k3 : s ≤ 299
    all_goals
      first
      | omega
      | (have HF := Lib.hid hB
         have H2 := Lib.hid h2
         have H3 := Lib.hid h3
         have HC := Lib.hid hc
         clear hB h2 h3 hc
         go_enter Tryz.func111, Tryz.ntmps111
         go_wp2_with fail
         go_ret
         have h2 := H2.out
         have h3 := H3.out
         have hc := HC.out
         exact ⟨retB3 (by rw [HF.out]; simp [h2, h3, hc] <;> omega), rfl⟩)

set_option maxHeartbeats 1000000 in
theorem fhas_any (v : Value) (l : List (Bs × Bs)) (name : Bs) (w : World) (hs : IsFlds w v l) (hz : sumF l ≤ 1000000) (hn : name.length ≤ 1099511627776) (hl : l.length ≤ 1048576) :
    Calls Tryz.prog 163 #[v, .string (mkS name)] w fun e w' => e = .returned (.bool (hasF l name)) ∧ Below w.heap.size w w' := by
  have HG := Lib.hid (fget_any v l name w hs (by omega) hn hl)
  have hh : hasF l name = decide (0 < (allF l name).length) := rfl
  rw [← hh] at HG
  obtain ⟨a, cap, rfl⟩ : ∃ a cap, v = .slice a l.length cap := by obtain ⟨a, c, h, -⟩ := hs; exact ⟨a, c, h⟩
  clear hs hz hh
  go_enter Tryz.func163, Tryz.ntmps163
  go_wp2_with fail
  refine HG.out.mono ?_
  rintro e w1 ⟨rfl, hb⟩
  have HB := Lib.hid hb
  clear hb
  go_wp2_with fail
  go_ret
  exact ⟨rfl, HB.out⟩

end Tk
end Go.Proofs.YtdlbmfgajgefdaaGreatDoor
namespace Go.Proofs.YtdlbmfgajgefdaaGreatDoor
open Go.RowKit
namespace Tk

/-- a block of one cell of the call's own -/
def One (w : World) (g : Nat) (T : TypeId) (a : Value) : Prop := w.heap[g]? = some (.cells #[a] T (0, 0))
theorem One.new (w : World) (T : TypeId) (a : Value) : One (w.alloc (.cells #[a] T)) w.heap.size T a := heap_alloc_last w _
theorem One.lt {w : World} {g : Nat} {T : TypeId} {a : Value} (h : One w g T a) : g < w.heap.size := (Array.getElem?_eq_some_iff.1 h).1
theorem One.c0 {w : World} {g : Nat} {T : TypeId} {a : Value} (h : One w g T a) : w.cell? ⟨g, 0, none⟩ = some a := by rw [Lib.cell_of_heap h]; rfl
theorem One.f0 {w : World} {g : Nat} {T : TypeId} {a : Value} (h : One w g T a) : w.frozen? ⟨g, 0, none⟩ = false := Lib.frozen_of_heap h 0

def LenPost (l : List (Bs × Bs)) (w : World) (e : Ending) (w' : World) : Prop := e = .returned (.tuple #[.int .i64 (lenN l : Nat), .bool (hasF l nmCL), .int .i64 (lenS l : Nat)]) ∧ Below w.heap.size w w'

theorem len_ret (l : List (Bs × Bs)) (n : Nat) (b : Bool) (s : Nat) (h1 : lenN l = n) (h2 : hasF l nmCL = b) (h3 : lenS l = s) : Ending.returned (.tuple #[.int .i64 (n : Int), .bool b, .int .i64 (s : Int)]) = .returned (.tuple #[.int .i64 (lenN l : Nat), .bool (hasF l nmCL), .int .i64 (lenS l : Nat)]) := by rw [h1, h2, h3]

set_option maxHeartbeats 8000000 in
set_option maxRecDepth 100000 in
theorem length_any (v : Value) (l : List (Bs × Bs)) (w : World) (hs : IsFlds w v l) (hz : sumF l ≤ 1000000) (hl : l.length ≤ 1048576) :
    Calls Tryz.prog 135 #[v] w (LenPost l w) := by
  have HH : Hid (∀ W, Below w.heap.size w W → Calls Tryz.prog 163 #[v, .string ⟨#[67, 111, 110, 116, 101, 110, 116, 45, 76, 101, 110, 103, 116, 104]⟩] W fun e w' => e = .returned (.bool (hasF l nmCL)) ∧ Below W.heap.size W w') := fun W hb => fhas_any v l nmCL W (isFlds_below hs hb) hz (by decide) hl
  have HLs : Hid (∀ W, Below w.heap.size w W → Calls Tryz.prog 105 #[v, .string ⟨#[67, 111, 110, 116, 101, 110, 116, 45, 76, 101, 110, 103, 116, 104]⟩] W (ListPost W.heap.size (listF l nmCL) W)) := fun W hb => flist_any v l nmCL W (isFlds_below hs hb) hz (by decide) hl
  unfold ListPost at HLs
  have HBad := Lib.hid (len_bad l)
  have HGood := Lib.hid (len_good l)
  have HEmp := Lib.hid (len_empty l)
  have HNone := Lib.hid (lenS_none l)
  have HPc := Lib.hid (fun p hp => Nat.le_trans (listF_piece nmCL l p hp) hz)
  have HHas := Lib.hid (list_has l nmCL)
  have hln := listF_len nmCL l
  have hlp : (listF l nmCL).length ≤ 1000000 := by omega
  have HRet := Lib.hid (len_ret l)
  unfold LenPost
  obtain ⟨a, cap, rfl⟩ : ∃ a cap, v = .slice a l.length cap := by obtain ⟨a, c, h, -⟩ := hs; exact ⟨a, c, h⟩
  clear hs hz hln
  generalize listF l nmCL = P at *
  go_enter Tryz.func135, Tryz.ntmps135
  go_wp2_with fail
  refine (HH.out _ (Below.refl _ _)).mono ?_
  rintro e w1 ⟨rfl, hb⟩
  have HB1 := Lib.hid hb
  clear hb
  go_wp2_with fail
  refine (HLs.out _ HB1.out).mono ?_
  rintro e w2 ⟨v2, rfl, ho, hb⟩
  have HB2 := Lib.hid (HB1.out.trans (hb.mono HB1.out.size))
  have HS := Lib.hid (isStrs_own ho)
  have HLt := Lib.hid (fun k e => (ho.lt k e).2)
  obtain ⟨a1, c1, rfl⟩ : ∃ a c, v2 = .slice a P.length c := by obtain ⟨a, c, h, -⟩ := isStrs_own ho; exact ⟨a, c, h⟩
  clear ho hb
  go_wp2_with fail
  go_loopw [4, 5, 15] (fun vs vf vi wr => ∃ i : Nat, i ≤ P.length ∧ vs = .int .i64 0 ∧ vi = .int .i64 i ∧ Hid (Below w2.heap.size w2 wr) ∧ ((i = 0 ∧ vf = .pointer none) ∨ (0 < i ∧ ∃ b, vf = .pointer (some ⟨b, 0, none⟩) ∧ Hid (b < wr.heap.size) ∧ Hid (wr.cell? ⟨b, 0, none⟩ = some (.int .i64 (firstN P : Nat))))) ∧ Hid (∀ p ∈ P.take i, isNum (firstN P) p = true)) (fun _ _ vi _ => P.length - (RowKit.intOf vi).toNat)
  case atStart => exact ⟨0, Nat.zero_le _, rfl, rfl, Below.refl _ _, .inl ⟨rfl, rfl⟩, fun p hp => by simp at hp⟩
  case round =>
    obtain ⟨i, hi, rfl, rfl, HB, hf, HA⟩ := hrel
    rename World => W
    by_cases hlt : i < P.length
    · obtain ⟨a', c', e', hc⟩ := isStrs_later HS.out HB.out HLt.out
      injection e' with e1 _ e2
      subst e1 e2
      obtain ⟨bx, o, rfl, hc⟩ := hc i (P.getD i []) (by simp [List.getD, hlt])
      have hmem : P.getD i [] ∈ P := by simp [List.getD, hlt]
      have hm := HPc.out (P.getD i []) hmem
      have htk : P.take (i + 1) = P.take i ++ [P.getD i []] := by rw [List.take_succ_eq_append_getElem hlt]; simp [List.getD, hlt]
      have hfirst : i = 0 → firstN P = (numL (P.getD i [])).1 := by
        intro e; subst e
        unfold firstN
        cases P with
        | nil => simp at hlt
        | cons p t => rfl
      have HBd := Lib.hid (HBad.out (P.getD i []) hmem)
      have HTK := Lib.hid htk
      have HFi := Lib.hid hfirst
      have hxl := numL_le (P.getD i [])
      clear htk hmem hfirst
      generalize P.getD i [] = x at *
      have hxz := size_mkS x
      have hnum := fun W : World => number_any (mkS x) W (by omega)
      rw [bs_mkS] at hnum
      have HNum := Lib.hid hnum
      have hisn : isNum (firstN P) x = (decide ((numL x).2 = 0) && decide ((numL x).1 = firstN P)) := rfl
      have HIs := Lib.hid hisn
      have g0 : (0 : Int) ≤ (i : Int) := by omega
      have g1 : (i : Int) < (P.length : Int) := by omega
      clear hnum hxz hisn
      generalize numL x = q at *
      obtain ⟨n, k⟩ := q
      simp only at hxl HNum HIs HFi
      have HN0 := Lib.hid (One.new W 2 (.int .i64 (n : Int)))
      have HBa := Lib.hid (HB.out.alloc HB.out.size (Obj.cells #[.int .i64 (n : Int)] 2))
      have hal : ∀ (b : Nat) (u : Value), b < W.heap.size → W.cell? ⟨b, 0, none⟩ = some u → (W.alloc (Obj.cells #[.int .i64 (n : Int)] 2)).cell? ⟨b, 0, none⟩ = some u := fun b u hb hu => by
        rw [World.cell?_alloc_lt _ _ _ (show (⟨b, 0, none⟩ : Addr).block < W.heap.size from hb)]; exact hu
      have HAl := Lib.hid hal
      have hgl : W.heap.size < (W.alloc (Obj.cells #[.int .i64 (n : Int)] 2)).heap.size := by simp
      clear hal
      by_cases hk : k = 0
      · have ek : ((k : Int) != 0) = false := by rw [hk]; rfl
        rcases hf with ⟨hi0, rfl⟩ | ⟨hip, b, rfl, HLo, HOne⟩
        · have hF : firstN P = n := HFi.out hi0
          have hyes : isNum (firstN P) x = true := by rw [HIs.out, hF, hk]; simp
          have HA2 : Hid (∀ p ∈ P.take (i + 1), isNum (firstN P) p = true) := by
            intro p hp
            rw [HTK.out, List.mem_append, List.mem_singleton] at hp
            rcases hp with hp | rfl
            · exact HA.out p hp
            · exact hyes
          have HF := Lib.hid hF
          clear hk hyes hF hi0
          go_wp2_with fail
          refine (HNum.out _).mono ?_
          rintro e w' ⟨rfl, rfl⟩
          have q0 := HN0.out.c0
          go_wp2_with fail
          generalize W.alloc (Obj.cells #[.int .i64 (n : Int)] 2) = W5 at *
          generalize W.heap.size = g at *
          go_quiet (fail)
          go_wp2_with fail
          refine ⟨⟨i + 1, hlt, rfl, by go_num, below_some_draws HBa.out _, .inr ⟨by omega, g, rfl, hgl, ?_⟩, HA2⟩, by simp [RowKit.intOf]; omega⟩
          show _ = _
          rw [HF.out]; exact q0
        · by_cases hn : n = firstN P
          · have hyes : isNum (firstN P) x = true := by rw [HIs.out, hn, hk]; simp
            have HA2 : Hid (∀ p ∈ P.take (i + 1), isNum (firstN P) p = true) := by
              intro p hp
              rw [HTK.out, List.mem_append, List.mem_singleton] at hp
              rcases hp with hp | rfl
              · exact HA.out p hp
              · exact hyes
            have en : ((n : Int) != (firstN P : Int)) = false := by rw [hn]; simp
            have qb := HAl.out b _ HLo.out HOne.out
            have hbl : Hid (b < (W.alloc (Obj.cells #[.int .i64 (n : Int)] 2)).heap.size) := Nat.lt_trans HLo.out hgl
            clear hk hyes hn
            generalize firstN P = F at *
            go_wp2_with fail
            refine (HNum.out _).mono ?_
            rintro e w' ⟨rfl, rfl⟩
            have q0 := HN0.out.c0
            go_wp2_with fail
            generalize W.alloc (Obj.cells #[.int .i64 (n : Int)] 2) = W5 at *
            generalize W.heap.size = g at *
            go_quiet (fail)
            go_wp2_with fail
            exact ⟨⟨i + 1, hlt, rfl, by go_num, below_some_draws HBa.out _, .inr ⟨by omega, b, rfl, hbl, qb⟩, HA2⟩, by simp [RowKit.intOf]; omega⟩
          · have hno : isNum (firstN P) x = false := by rw [HIs.out]; simp [hn]
            obtain ⟨b1, b2, b3⟩ := HBd.out hno
            have HR := Lib.hid (HRet.out 0 _ 400 b1 rfl b3)
            have HBf := Lib.hid (HB2.out.trans (HBa.out.mono HB2.out.size))
            have en : ((n : Int) != (firstN P : Int)) = true := by rw [bne_iff_ne]; omega
            have qb := HAl.out b _ HLo.out HOne.out
            clear hk hn hno b1 b2 b3
            generalize firstN P = F at *
            go_wp2_with fail
            refine (HNum.out _).mono ?_
            rintro e w' ⟨rfl, rfl⟩
            have q0 := HN0.out.c0
            go_wp2_with fail
            generalize W.alloc (Obj.cells #[.int .i64 (n : Int)] 2) = W5 at *
            generalize W.heap.size = g at *
            go_quiet (fail)
            go_wp2_with fail
            try simp only [Exit.inBlock, Exit.then]
            refine bodyPost_ret (results_tmp3' rfl _ _ _) rfl ?_
            exact ⟨HR.out, below_some_draws HBf.out _⟩
      · have ek : ((k : Int) != 0) = true := by rw [bne_iff_ne]; omega
        have hno : isNum (firstN P) x = false := by rw [HIs.out]; simp [hk]
        obtain ⟨b1, b2, b3⟩ := HBd.out hno
        have HR := Lib.hid (HRet.out 0 _ 400 b1 rfl b3)
        have HBf := Lib.hid (HB2.out.trans (HBa.out.mono HB2.out.size))
        clear hk hno b1 b2 b3
        rcases hf with ⟨hi0, rfl⟩ | ⟨hip, b, rfl, HLo, HOne⟩
        · clear hi0
          go_wp2_with fail
          refine (HNum.out _).mono ?_
          rintro e w' ⟨rfl, rfl⟩
          have q0 := HN0.out.c0
          go_wp2_with fail
          generalize W.alloc (Obj.cells #[.int .i64 (n : Int)] 2) = W5 at *
          generalize W.heap.size = g at *
          go_quiet (fail)
          go_wp2_with fail
          try simp only [Exit.inBlock, Exit.then]
          refine bodyPost_ret (results_tmp3' rfl _ _ _) rfl ?_
          exact ⟨HR.out, below_some_draws HBf.out _⟩
        · have qb := HAl.out b _ HLo.out HOne.out
          generalize firstN P = F at *
          go_wp2_with fail
          refine (HNum.out _).mono ?_
          rintro e w' ⟨rfl, rfl⟩
          have q0 := HN0.out.c0
          go_wp2_with fail
          generalize W.alloc (Obj.cells #[.int .i64 (n : Int)] 2) = W5 at *
          generalize W.heap.size = g at *
          go_quiet (fail)
          go_wp2_with fail
          try simp only [Exit.inBlock, Exit.then]
          refine bodyPost_ret (results_tmp3' rfl _ _ _) rfl ?_
          exact ⟨HR.out, below_some_draws HBf.out _⟩
    · have hil : P.take i = P := List.take_of_length_le (by omega)
      have hipl : i = P.length := by omega
      rw [hil] at HA
      have HBf := Lib.hid (HB2.out.trans (HB.out.mono HB2.out.size))
      rcases hf with ⟨hi0, rfl⟩ | ⟨hip, b, rfl, HLo, HOne⟩
      · have hP : P = [] := List.eq_nil_of_length_eq_zero (by omega)
        cases hh : hasF l nmCL
        · obtain ⟨b1, b2⟩ := HNone.out hh
          have HR := Lib.hid (HRet.out 0 false 0 b2 hh b1)
          rw [hh] at HR
          clear hil hipl hP hi0 b1 b2
          go_wp2_with fail
          try simp only [Exit.inBlock, Exit.then]
          refine bodyPost_ret (results_tmp3' rfl _ _ _) rfl ?_
          exact ⟨by rw [hh]; exact HR.out, HBf.out⟩
        · obtain ⟨b1, b2⟩ := HEmp.out hP hh
          have HR := Lib.hid (HRet.out 0 true 400 b1 hh b2)
          rw [hh] at HR
          clear hil hipl hP hi0 b1 b2
          go_wp2_with fail
          try simp only [Exit.inBlock, Exit.then]
          refine bodyPost_ret (results_tmp3' rfl _ _ _) rfl ?_
          exact ⟨by rw [hh]; exact HR.out, HBf.out⟩
      · have hP : P ≠ [] := fun e => by rw [e] at hipl; simp at hipl; omega
        obtain ⟨b1, b2, b3⟩ := HGood.out hP HA.out
        have HR := Lib.hid (HRet.out _ _ 0 b1 rfl b3)
        have q0 := HOne.out
        have hFl : firstN P ≤ 9007199254740991 := numL_le _
        clear hil hipl hP b1 b2 b3
        generalize firstN P = F at *
        go_wp2_with fail
        try simp only [Exit.inBlock, Exit.then]
        refine bodyPost_ret (results_tmp3' rfl _ _ _) rfl ?_
        exact ⟨HR.out, HBf.out⟩
end Tk
end Go.Proofs.YtdlbmfgajgefdaaGreatDoor
namespace Go.Proofs.YtdlbmfgajgefdaaGreatDoor
open Go.RowKit
namespace Tk

def CodPost (l : List (Bs × Bs)) (w : World) (e : Ending) (w' : World) : Prop := e = .returned (.tuple #[.bool (hasF l nmTE), .int .i64 (codS l : Nat)]) ∧ Below w.heap.size w w'
theorem cod_ret (l : List (Bs × Bs)) (b : Bool) (s : Nat) (h2 : hasF l nmTE = b) (h3 : codS l = s) : Ending.returned (.tuple #[.bool b, .int .i64 (s : Int)]) = .returned (.tuple #[.bool (hasF l nmTE), .int .i64 (codS l : Nat)]) := by rw [h2, h3]
theorem cod_no (l : List (Bs × Bs)) (h : hasF l nmTE = false) : codS l = 0 := by unfold codS; rw [h]; rfl
theorem cod_yes (l : List (Bs × Bs)) (h : hasF l nmTE = true) : codS l = if codOk (listF l nmTE) then 0 else 501 := by unfold codS; rw [h]; cases codOk (listF l nmTE) <;> rfl

set_option maxHeartbeats 4000000 in
set_option maxRecDepth 100000 in
theorem coded_any (v : Value) (l : List (Bs × Bs)) (w : World) (hs : IsFlds w v l) (hz : sumF l ≤ 1000000) (hl : l.length ≤ 1048576) :
    Calls Tryz.prog 136 #[v] w (CodPost l w) := by
  have HH : Hid (∀ W, Below w.heap.size w W → Calls Tryz.prog 163 #[v, .string ⟨#[84, 114, 97, 110, 115, 102, 101, 114, 45, 69, 110, 99, 111, 100, 105, 110, 103]⟩] W fun e w' => e = .returned (.bool (hasF l nmTE)) ∧ Below W.heap.size W w') := fun W hb => fhas_any v l nmTE W (isFlds_below hs hb) hz (by decide) hl
  have HLs : Hid (∀ W, Below w.heap.size w W → Calls Tryz.prog 105 #[v, .string ⟨#[84, 114, 97, 110, 115, 102, 101, 114, 45, 69, 110, 99, 111, 100, 105, 110, 103]⟩] W (ListPost W.heap.size (listF l nmTE) W)) := fun W hb => flist_any v l nmTE W (isFlds_below hs hb) hz (by decide) hl
  unfold ListPost at HLs
  have HPc := Lib.hid (fun p hp => Nat.le_trans (listF_piece nmTE l p hp) hz)
  have hln := listF_len nmTE l
  have hlp : (listF l nmTE).length ≤ 1000000 := by omega
  have HRet := Lib.hid (cod_ret l)
  have HNo := Lib.hid (cod_no l)
  have HYes := Lib.hid (cod_yes l)
  unfold CodPost
  obtain ⟨a, cap, rfl⟩ : ∃ a cap, v = .slice a l.length cap := by obtain ⟨a, c, h, -⟩ := hs; exact ⟨a, c, h⟩
  clear hs hz hln
  generalize listF l nmTE = P at *
  cases hh : hasF l nmTE
  · have HR := Lib.hid (HRet.out false 0 hh (HNo.out hh))
    rw [hh] at HH HR
    go_enter Tryz.func136, Tryz.ntmps136
    go_wp2_with fail
    refine (HH.out _ (Below.refl _ _)).mono ?_
    rintro e w1 ⟨rfl, hb⟩
    have HB1 := Lib.hid hb
    clear hb
    go_wp2_with fail
    refine (HLs.out _ HB1.out).mono ?_
    rintro e w2 ⟨v2, rfl, ho, hb⟩
    have HB2 := Lib.hid (HB1.out.trans (hb.mono HB1.out.size))
    obtain ⟨a1, c1, rfl⟩ : ∃ a c, v2 = .slice a P.length c := by obtain ⟨a, c, h, -⟩ := isStrs_own ho; exact ⟨a, c, h⟩
    clear ho hb
    go_wp2_with fail
    go_ret2
    exact ⟨HR.out, HB2.out⟩
  · have hy := HYes.out hh
    rw [hh] at HH
    by_cases h1 : P.length = 1
    · obtain ⟨p, rfl⟩ : ∃ p, P = [p] := List.length_eq_one_iff.1 h1
      have hpz := HPc.out p (by simp)
      have hpm := size_mkS p
      have hS : ∀ W : World, Calls Tryz.prog 128 #[.string (mkS p), .string ⟨#[99, 104, 117, 110, 107, 101, 100]⟩] W fun r w' => r = .returned (.bool (codOk [p])) ∧ ∃ n, w' = W.drewN n := fun W => by
        have h := tsame_any (mkS p) ⟨#[99, 104, 117, 110, 107, 101, 100]⟩ W (by omega) (by decide)
        have e : codOk [p] = decide (lowL (bs (mkS p)) = lowL (bs ⟨#[99, 104, 117, 110, 107, 101, 100]⟩)) := by
          show (true && decide (lowL p = lowL chkB)) = _
          rw [Bool.true_and]; rfl
        rw [e]; exact h
      have HS := Lib.hid hS
      clear hS hpm hpz h1
      cases hk : codOk [p]
      all_goals
        rw [hk] at hy HS
        have HR := Lib.hid (HRet.out true _ hh hy)
        rw [hh] at HR
        clear hy
        go_enter Tryz.func136, Tryz.ntmps136
        go_wp2_with fail
        refine (HH.out _ (Below.refl _ _)).mono ?_
        rintro e w1 ⟨rfl, hb⟩
        have HB1 := Lib.hid hb
        clear hb
        go_wp2_with fail
        refine (HLs.out _ HB1.out).mono ?_
        rintro e w2 ⟨v2, rfl, ho, hb⟩
        have HB2 := Lib.hid (HB1.out.trans (hb.mono HB1.out.size))
        obtain ⟨a1, c1, rfl, hc⟩ := isStrs_own ho
        obtain ⟨b, o, rfl, hc0⟩ := hc 0 p (by simp)
        rw [Nat.add_zero] at hc0
        clear ho hb hc
        go_wp2_with fail
        refine (HS.out _).mono ?_
        rintro e w3 ⟨rfl, n, rfl⟩
        go_wp2_with fail
        go_ret2
        exact ⟨HR.out, below_some_draws HB2.out _⟩
    · have hk : codOk P = false := by unfold codOk; simp [h1]
      rw [hk] at hy
      have HR := Lib.hid (HRet.out true 501 hh hy)
      rw [hh] at HR
      have hb1 : ((P.length : Int) != 1) = true := by rw [bne_iff_ne]; omega
      clear hy h1 hk
      go_enter Tryz.func136, Tryz.ntmps136
      go_wp2_with fail
      refine (HH.out _ (Below.refl _ _)).mono ?_
      rintro e w1 ⟨rfl, hb⟩
      have HB1 := Lib.hid hb
      clear hb
      go_wp2_with fail
      refine (HLs.out _ HB1.out).mono ?_
      rintro e w2 ⟨v2, rfl, ho, hb⟩
      have HB2 := Lib.hid (HB1.out.trans (hb.mono HB1.out.size))
      obtain ⟨a1, c1, rfl⟩ : ∃ a c, v2 = .slice a P.length c := by obtain ⟨a, c, h, -⟩ := isStrs_own ho; exact ⟨a, c, h⟩
      clear ho hb
      go_wp2_with fail
      go_ret2
      exact ⟨HR.out, HB2.out⟩
end Tk
end Go.Proofs.YtdlbmfgajgefdaaGreatDoor
namespace Go.Proofs.YtdlbmfgajgefdaaGreatDoor
open Go.RowKit
namespace Tk

theorem bs_nil_iff (M : ByteArray) : bs M = [] ↔ M = ⟨#[]⟩ := by
  constructor
  · intro h; rw [← mkS_bs M, h]; rfl
  · rintro rfl; rfl
theorem isE_no {M : ByteArray} (h : bs M ≠ []) : M.toList.isEmpty = false := by rw [toList_bs]; cases e : bs M with | nil => exact absurd e h | cons _ _ => rfl

set_option maxHeartbeats 1000000 in
set_option maxRecDepth 100000 in
theorem isReq_any (M T : ByteArray) (s : Int) (R : ByteArray) (mi : Int) (vf : Value) (B : ByteArray) (vt : Value) (w : World) :
    Calls Tryz.prog 70 #[.agg (msgC M T s R mi vf B vt)] w fun e w' => e = .returned (.bool (!decide (bs M = []))) ∧ Below w.heap.size w w' := by
  have hX := Box.new w 24 (msgC M T s R mi vf B vt)
  have HB0 := Lib.hid (below_alloc w (.cells (msgC M T s R mi vf B vt) 24))
  have c0 := hX.cell 0 _ rfl
  unfold msgC at *
  by_cases hm : bs M = []
  · have hM := (bs_nil_iff M).1 hm
    subst hM
    rw [decide_eq_true hm]
    clear hm hX
    go_enter Tryz.func70, Tryz.ntmps70
    go_wp2_with fail
    go_ret
    exact ⟨rfl, HB0.out⟩
  · have he := isE_no hm
    rw [decide_eq_false hm]
    clear hm hX
    go_enter Tryz.func70, Tryz.ntmps70
    go_wp2_with fail
    go_ret
    exact ⟨rfl, HB0.out⟩

set_option maxHeartbeats 1000000 in
theorem framed_any (v : Value) (l : List (Bs × Bs)) (w : World) (hs : IsFlds w v l) (hz : sumF l ≤ 1000000) (hl : l.length ≤ 1048576) :
    Calls Tryz.prog 108 #[v] w fun e w' => e = .returned (.bool (endB l)) ∧ Below w.heap.size w w' := by
  have HL := Lib.hid (length_any v l w hs hz hl)
  have HC := Lib.hid (fun (W : World) (hb : Below w.heap.size w W) => coded_any v l W (isFlds_below hs hb) hz hl)
  have HE := Lib.hid (show endB l = (hasF l nmCL || hasF l nmTE) from rfl)
  unfold LenPost at HL
  unfold CodPost at HC
  obtain ⟨a, cap, rfl⟩ : ∃ a cap, v = .slice a l.length cap := by obtain ⟨a, c, h, -⟩ := hs; exact ⟨a, c, h⟩
  generalize hasF l nmCL = p at *
  generalize hasF l nmTE = q at *
  clear hs hz hl
  cases p <;> cases q
  all_goals
    go_enter Tryz.func108, Tryz.ntmps108
    go_wp2_with fail
    refine HL.out.mono ?_
    rintro e w1 ⟨rfl, hb⟩
    have HB1 := Lib.hid hb
    clear hb
    go_wp2_with fail
    refine (HC.out _ HB1.out).mono ?_
    rintro e w2 ⟨rfl, hb⟩
    have HB2 := Lib.hid (HB1.out.trans (hb.mono HB1.out.size))
    clear hb
    go_wp2_with fail
    go_ret
    exact ⟨by rw [HE.out]; rfl, HB2.out⟩

set_option maxHeartbeats 1000000 in
theorem bare8_any (s : Int) (w : World) :
    Calls Tryz.prog 76 #[.int .i64 s] w fun e w' => e = .returned (.bool (bareB [] s)) ∧ w = w' := by
  have h := bare_any ⟨#[]⟩ s w
  change Calls Tryz.prog _ _ _ fun e w' => e = .returned (.bool (bareB [] s)) ∧ w = w' at h
  have H := Lib.hid h
  clear h
  generalize bareB [] s = b at *
  go_enter Tryz.func76, Tryz.ntmps76
  go_wp2_with fail
  refine H.out.mono ?_
  rintro e w1 ⟨rfl, rfl⟩
  go_wp2_with fail
  go_ret
  exact ⟨rfl, rfl⟩

theorem hasC_mem (M : ByteArray) : Lib.containsS [(⟨#[80, 79, 83, 84]⟩ : ByteArray), ⟨#[80, 85, 84]⟩, ⟨#[80, 65, 84, 67, 72]⟩] M = hasC (bs M) := by
  have h : ∀ (k : Bs), (M = mkS k) ↔ (bs M = k) := fun k => ⟨fun e => by rw [e, bs_mkS], fun e => by rw [← e, mkS_bs]⟩
  have h1 := h poB
  have h2 := h puB
  have h3 := h paB
  change (M = (⟨#[80, 79, 83, 84]⟩ : ByteArray)) ↔ _ at h1
  change (M = (⟨#[80, 85, 84]⟩ : ByteArray)) ↔ _ at h2
  change (M = (⟨#[80, 65, 84, 67, 72]⟩ : ByteArray)) ↔ _ at h3
  unfold hasC
  rw [Bool.eq_iff_iff, Lib.containsS_iff, Bool.or_eq_true, Bool.or_eq_true, decide_eq_true_eq, decide_eq_true_eq, decide_eq_true_eq, ← h1, ← h2, ← h3]
  simp [or_assoc]
set_option maxHeartbeats 1000000 in
theorem hasC_any (M : ByteArray) (w : World) :
    Calls Tryz.prog 71 #[.string M] w fun e w' => e = .returned (.bool (hasC (bs M))) ∧ Below w.heap.size w w' := by
  have h := Tryz.slices_Contains_string w.heap.size 0 3 3 [(⟨#[80, 79, 83, 84]⟩ : ByteArray), ⟨#[80, 85, 84]⟩, ⟨#[80, 65, 84, 67, 72]⟩] M (w.alloc (.cells #[.string ⟨#[80, 79, 83, 84]⟩, .string ⟨#[80, 85, 84]⟩, .string ⟨#[80, 65, 84, 67, 72]⟩] 9)) (by decide) (by decide) (fun j hj => by
    rw [Lib.cell_of_heap (heap_alloc_last w _)]
    match j, hj with
    | 0, _ => rfl
    | 1, _ => rfl
    | 2, _ => rfl)
  rw [show ([(⟨#[80, 79, 83, 84]⟩ : ByteArray), ⟨#[80, 85, 84]⟩, ⟨#[80, 65, 84, 67, 72]⟩].take 3) = [(⟨#[80, 79, 83, 84]⟩ : ByteArray), ⟨#[80, 85, 84]⟩, ⟨#[80, 65, 84, 67, 72]⟩] from rfl, hasC_mem] at h
  have H := Lib.hid h
  have HB0 := Lib.hid (below_alloc w (.cells #[.string ⟨#[80, 79, 83, 84]⟩, .string ⟨#[80, 85, 84]⟩, .string ⟨#[80, 65, 84, 67, 72]⟩] 9))
  clear h
  generalize hasC (bs M) = b at *
  go_enter Tryz.func71, Tryz.ntmps71
  go_wp2_with fail
  refine H.out.mono ?_
  rintro e w1 ⟨rfl, rfl⟩
  go_wp2_with fail
  go_ret
  exact ⟨rfl, HB0.out⟩

/-- a first line, its error -/
def FlPost (M T : Bs) (s : Int) (R : Bs) (mi : Int) (w : World) (e : Ending) (w' : World) : Prop := e = .returned (.tuple #[.string (mkS (flS M T s R mi)), .int .i64 (flE M T s R mi)]) ∧ Below w.heap.size w w'

set_option maxHeartbeats 8000000 in
set_option maxRecDepth 100000 in
theorem firstLine_any (M T : ByteArray) (s : Int) (R : ByteArray) (mi : Int) (vf : Value) (B : ByteArray) (vt : Value) (w : World) (hTn : Tens w) (hM : M.size ≤ 1099511627) (hT : T.size ≤ 1099511627) (hR : R.size ≤ 1099511627) :
    Calls Tryz.prog 106 #[.agg (msgC M T s R mi vf B vt)] w (FlPost (bs M) (bs T) s (bs R) mi w) := by
  have HX := Lib.hid (Box.new w 24 (msgC M T s R mi vf B vt))
  have HB0 := Lib.hid (below_alloc w (.cells (msgC M T s R mi vf B vt) 24))
  have HQ := Lib.hid (fun W : World => isReq_any M T s R mi vf B vt W)
  have HRl := Lib.hid (fun W : World => requestLine_any M T mi W hM hT)
  have HSl := Lib.hid (fun (W : World) (hb : Below w.heap.size w W) => statusLine_any mi s R W (hTn.later hb) hR)
  unfold RlPost at HRl
  unfold SlPost at HSl
  unfold FlPost
  have c0 := HX.out.cell 0 _ rfl
  have c1 := HX.out.cell 1 _ rfl
  have c2 := HX.out.cell 2 _ rfl
  have c3 := HX.out.cell 3 _ rfl
  have c4 := HX.out.cell 4 _ rfl
  have c5 := HX.out.cell 5 _ rfl
  have c6 := HX.out.cell 6 _ rfl
  have c7 := HX.out.cell 7 _ rfl
  clear hTn hM hT hR
  unfold msgC at *
  by_cases hm : bs M = []
  · rw [decide_eq_true hm] at HQ
    by_cases ht : bs T = []
    · have hS : flS (bs M) (bs T) s (bs R) mi = slS mi s (bs R) ∧ flE (bs M) (bs T) s (bs R) mi = slE mi s (bs R) := by unfold flS flE; rw [if_pos hm, if_pos ht, if_pos hm, if_pos ht]; exact ⟨rfl, rfl⟩
      rw [hS.1, hS.2]
      have hTe := (bs_nil_iff T).1 ht
      have hMe := (bs_nil_iff M).1 hm
      subst hTe hMe
      clear hS hm ht HRl
      generalize slS mi s (bs R) = X at *
      generalize slE mi s (bs R) = E at *
      go_enter Tryz.func106, Tryz.ntmps106
      go_wp2_with fail
      refine (HQ.out _).mono ?_
      rintro e w1 ⟨rfl, hb⟩
      have HX1 := Lib.hid (HX.out.later hb)
      have HB1 := Lib.hid (HB0.out.trans (hb.mono HB0.out.size))
      clear hb c0 c1 c2 c3 c4 c5 c6 c7
      have c0 := HX1.out.cell 0 _ rfl
      have c1 := HX1.out.cell 1 _ rfl
      have c2 := HX1.out.cell 2 _ rfl
      have c3 := HX1.out.cell 3 _ rfl
      have c4 := HX1.out.cell 4 _ rfl
      have c5 := HX1.out.cell 5 _ rfl
      have c6 := HX1.out.cell 6 _ rfl
      have c7 := HX1.out.cell 7 _ rfl
      go_wp2_with fail
      refine (HQ.out _).mono ?_
      rintro e w2 ⟨rfl, hb⟩
      have HX2 := Lib.hid (HX1.out.later hb)
      have HB2 := Lib.hid (HB1.out.trans (hb.mono HB1.out.size))
      clear hb c0 c1 c2 c3 c4 c5 c6 c7
      have c1 := HX2.out.cell 1 _ rfl
      have c2 := HX2.out.cell 2 _ rfl
      have c3 := HX2.out.cell 3 _ rfl
      have c4 := HX2.out.cell 4 _ rfl
      go_wp2_with fail
      refine (HSl.out _ HB2.out).mono ?_
      rintro e w3 ⟨rfl, hb⟩
      have HB3 := Lib.hid (HB2.out.trans (hb.mono HB2.out.size))
      clear hb
      go_wp2_with fail
      go_ret2
      exact ⟨rfl, HB3.out⟩
    · have hS : flS (bs M) (bs T) s (bs R) mi = [] ∧ flE (bs M) (bs T) s (bs R) mi = 4 := by unfold flS flE; rw [if_pos hm, if_neg ht, if_pos hm, if_neg ht]; exact ⟨rfl, rfl⟩
      rw [hS.1, hS.2]
      have hTe := isE_no ht
      have hMe := (bs_nil_iff M).1 hm
      subst hMe
      clear hS hm ht HRl HSl
      go_enter Tryz.func106, Tryz.ntmps106
      go_wp2_with fail
      refine (HQ.out _).mono ?_
      rintro e w1 ⟨rfl, hb⟩
      have HX1 := Lib.hid (HX.out.later hb)
      have HB1 := Lib.hid (HB0.out.trans (hb.mono HB0.out.size))
      clear hb c0 c1 c2 c3 c4 c5 c6 c7
      have c0 := HX1.out.cell 0 _ rfl
      have c1 := HX1.out.cell 1 _ rfl
      have c2 := HX1.out.cell 2 _ rfl
      have c3 := HX1.out.cell 3 _ rfl
      have c4 := HX1.out.cell 4 _ rfl
      have c5 := HX1.out.cell 5 _ rfl
      have c6 := HX1.out.cell 6 _ rfl
      have c7 := HX1.out.cell 7 _ rfl
      go_wp2_with fail
      refine (HQ.out _).mono ?_
      rintro e w2 ⟨rfl, hb⟩
      have HX2 := Lib.hid (HX1.out.later hb)
      have HB2 := Lib.hid (HB1.out.trans (hb.mono HB1.out.size))
      clear hb c0 c1 c2 c3 c4 c5 c6 c7
      have c1 := HX2.out.cell 1 _ rfl
      go_wp2_with fail
      go_ret2
      exact ⟨rfl, HB2.out⟩
  · rw [decide_eq_false hm] at HQ
    have he := isE_no hm
    by_cases hc : s = 0 ∧ bs R = []
    · obtain ⟨h0, h1⟩ := hc
      have hS : flS (bs M) (bs T) s (bs R) mi = rlS (bs M) (bs T) mi ∧ flE (bs M) (bs T) s (bs R) mi = rlE (bs M) (bs T) mi := by unfold flS flE; rw [if_neg hm, if_pos ⟨h0, h1⟩, if_neg hm, if_pos ⟨h0, h1⟩]; exact ⟨rfl, rfl⟩
      rw [hS.1, hS.2]
      have hRe := (bs_nil_iff R).1 h1
      subst hRe h0
      clear hS hm h1 HSl
      generalize rlS (bs M) (bs T) mi = X at *
      generalize rlE (bs M) (bs T) mi = E at *
      go_enter Tryz.func106, Tryz.ntmps106
      go_wp2_with fail
      refine (HQ.out _).mono ?_
      rintro e w1 ⟨rfl, hb⟩
      have HX1 := Lib.hid (HX.out.later hb)
      have HB1 := Lib.hid (HB0.out.trans (hb.mono HB0.out.size))
      clear hb c0 c1 c2 c3 c4 c5 c6 c7
      have c0 := HX1.out.cell 0 _ rfl
      have c1 := HX1.out.cell 1 _ rfl
      have c2 := HX1.out.cell 2 _ rfl
      have c3 := HX1.out.cell 3 _ rfl
      have c4 := HX1.out.cell 4 _ rfl
      go_wp2_with fail
      refine (HRl.out _).mono ?_
      rintro e w3 ⟨rfl, hb⟩
      have HB3 := Lib.hid (HB1.out.trans (hb.mono HB1.out.size))
      clear hb
      go_wp2_with fail
      go_ret2
      exact ⟨rfl, HB3.out⟩
    · have hS : flS (bs M) (bs T) s (bs R) mi = [] ∧ flE (bs M) (bs T) s (bs R) mi = 4 := by unfold flS flE; rw [if_neg hm, if_neg hc, if_neg hm, if_neg hc]; exact ⟨rfl, rfl⟩
      rw [hS.1, hS.2]
      by_cases h0 : s = 0
      · have h1 := isE_no (fun h => hc ⟨h0, h⟩ : bs R ≠ [])
        subst h0
        clear hS hm hc HSl HRl
        go_enter Tryz.func106, Tryz.ntmps106
        go_wp2_with fail
        refine (HQ.out _).mono ?_
        rintro e w1 ⟨rfl, hb⟩
        have HX1 := Lib.hid (HX.out.later hb)
        have HB1 := Lib.hid (HB0.out.trans (hb.mono HB0.out.size))
        clear hb c0 c1 c2 c3 c4 c5 c6 c7
        have c0 := HX1.out.cell 0 _ rfl
        have c1 := HX1.out.cell 1 _ rfl
        have c2 := HX1.out.cell 2 _ rfl
        have c3 := HX1.out.cell 3 _ rfl
        have c4 := HX1.out.cell 4 _ rfl
        have c5 := HX1.out.cell 5 _ rfl
        have c6 := HX1.out.cell 6 _ rfl
        have c7 := HX1.out.cell 7 _ rfl
        go_wp2_with fail
        refine (HQ.out _).mono ?_
        rintro e w2 ⟨rfl, hb⟩
        have HB2 := Lib.hid (HB1.out.trans (hb.mono HB1.out.size))
        clear hb
        go_wp2_with fail
        go_ret2
        exact ⟨rfl, HB2.out⟩
      · have hse : (s == 0) = false := by simp [h0]
        clear hS hm hc h0 HSl HRl
        go_enter Tryz.func106, Tryz.ntmps106
        go_wp2_with fail
        refine (HQ.out _).mono ?_
        rintro e w1 ⟨rfl, hb⟩
        have HX1 := Lib.hid (HX.out.later hb)
        have HB1 := Lib.hid (HB0.out.trans (hb.mono HB0.out.size))
        clear hb c0 c1 c2 c3 c4 c5 c6 c7
        have c0 := HX1.out.cell 0 _ rfl
        have c1 := HX1.out.cell 1 _ rfl
        have c2 := HX1.out.cell 2 _ rfl
        have c3 := HX1.out.cell 3 _ rfl
        have c4 := HX1.out.cell 4 _ rfl
        have c5 := HX1.out.cell 5 _ rfl
        have c6 := HX1.out.cell 6 _ rfl
        have c7 := HX1.out.cell 7 _ rfl
        go_wp2_with fail
        refine (HQ.out _).mono ?_
        rintro e w2 ⟨rfl, hb⟩
        have HB2 := Lib.hid (HB1.out.trans (hb.mono HB1.out.size))
        clear hb
        go_wp2_with fail
        go_ret2
        exact ⟨rfl, HB2.out⟩
end Tk
end Go.Proofs.YtdlbmfgajgefdaaGreatDoor
namespace Go.Proofs.YtdlbmfgajgefdaaGreatDoor
open Go.RowKit
namespace Tk

/-- what is read of the table of trailing zeros -/
def Bruijn (B : Nat) (w : World) : Prop := 3 < B ∧ B ≤ w.heap.size ∧ w.cell? ⟨3, 15, none⟩ = some (.int .u8 4)
theorem Bruijn.later {B : Nat} {w w' : World} (h : Bruijn B w) (hb : Below B w w') : Bruijn B w' := by
  obtain ⟨h1, h2, h3⟩ := h
  exact ⟨h1, Nat.le_trans h2 hb.size, (hb.cell (p := ⟨3, 15, none⟩) h1).trans h3⟩
theorem Bruijn.top {B : Nat} {w : World} (h : Bruijn B w) : Bruijn w.heap.size w := ⟨Nat.lt_of_lt_of_le h.1 h.2.1, Nat.le_refl _, h.2.2⟩

set_option maxHeartbeats 1000000 in
set_option maxRecDepth 100000 in
theorem tz64_any (B : Nat) (w : World) (h : Bruijn B w) :
    Calls Tryz.prog 192 #[.int .u64 16] w fun e w' => e = .returned (.int .i64 4) ∧ w' = w := by
  have hc := h.2.2
  have b1 : bits .and .u64 16 (IntKind.u64.wrap (-16)) = 16 := by decide
  have b2 : IntKind.u64.wrap (16 * 285870213051353865) = 4573923408821661840 := by decide
  have b3 : Int.shiftRight 4573923408821661840 58 = 15 := by decide
  clear h
  go_enter Tryz.func192, Tryz.ntmps192
  go_wp2
  go_ret
  exact ⟨rfl, rfl⟩

set_option maxHeartbeats 1000000 in
set_option maxRecDepth 100000 in
theorem tz_any (B : Nat) (w : World) (h : Bruijn B w) :
    Calls Tryz.prog 177 #[.int .u64 16] w fun e w' => e = .returned (.int .i64 4) ∧ w' = w := by
  have H := Lib.hid (tz64_any B w h)
  clear h
  go_enter Tryz.func177, Tryz.ntmps177
  go_wp2_with fail
  refine H.out.mono ?_
  rintro e w' ⟨rfl, rfl⟩
  go_wp2_with fail
  go_ret
  exact ⟨rfl, rfl⟩
set_option maxHeartbeats 1000000 in
set_option maxRecDepth 100000 in
theorem pow2_any (w : World) :
    Calls Tryz.prog 176 #[.int .i64 16] w fun e w' => e = .returned (.bool true) ∧ w' = w := by
  have b1 : bits .and .i64 16 15 = 0 := by decide
  go_enter Tryz.func176, Tryz.ntmps176
  go_wp2
  go_ret
  exact ⟨rfl, rfl⟩

theorem hex_and0 : ∀ a : Nat, a < 64 → ∀ b : Nat, b < 64 → bits .and .u64 ((64 * a + b : Nat) : Int) 15 = (((64 * a + b) % 16 : Nat) : Int) := by decide +kernel
theorem hex_shr0 : ∀ a : Nat, a < 64 → ∀ b : Nat, b < 64 → Int.shiftRight ((64 * a + b : Nat) : Int) 4 = (((64 * a + b) / 16 : Nat) : Int) := by decide +kernel
theorem hex_and (n : Nat) (h : n < 4096) : bits .and .u64 (n : Int) 15 = ((n % 16 : Nat) : Int) := by
  have := hex_and0 (n / 64) (by omega) (n % 64) (by omega)
  rwa [show 64 * (n / 64) + n % 64 = n by omega] at this
theorem hex_shr (n : Nat) (h : n < 4096) : Int.shiftRight (n : Int) 4 = ((n / 16 : Nat) : Int) := by
  have := hex_shr0 (n / 64) (by omega) (n % 64) (by omega)
  rwa [show 64 * (n / 64) + n % 64 = n by omega] at this
def digs36 : ByteArray := ⟨#[48, 49, 50, 51, 52, 53, 54, 55, 56, 57, 97, 98, 99, 100, 101, 102, 103, 104, 105, 106, 107, 108, 109, 110, 111, 112, 113, 114, 115, 116, 117, 118, 119, 120, 121, 122]⟩
theorem digs_at (n : Nat) (h : n < 16) (h2 : n < digs36.size) : digs36[n] = hexc n := by
  match n, h with
  | 0, _ | 1, _ | 2, _ | 3, _ | 4, _ | 5, _ | 6, _ | 7, _ | 8, _ | 9, _ | 10, _ | 11, _ | 12, _ | 13, _ | 14, _ | 15, _ => rfl
  | n + 16, h => omega

set_option maxHeartbeats 8000000 in
set_option maxRecDepth 100000 in
theorem fmtBits_any (n : Nat) (B : Nat) (w : World) (h : Bruijn B w) (hn : n < 4096) :
    Calls Tryz.prog 153 #[.slice none 0 0, .int .u64 n, .int .i64 16, .bool false, .bool false] w fun e w' => e = .returned (.tuple #[.slice none 0 0, .string (mkS (hexL n))]) ∧ Below w.heap.size w w' := by
  have H1 := Lib.hid (fun W : World => pow2_any W)
  have H2 := Lib.hid (fun (W : World) (hb : Below w.heap.size w W) => tz_any w.heap.size W (h.top.later hb))
  have hz := heap_alloc_last w (.cells Tryz.zeroCells178 178)
  have c64 : (w.alloc (.cells Tryz.zeroCells178 178)).cell? ⟨w.heap.size, 64, none⟩ = some (.int .u8 0) := by rw [Lib.cell_of_heap hz]; kernel_rfl
  have c63 : (w.alloc (.cells Tryz.zeroCells178 178)).cell? ⟨w.heap.size, 63, none⟩ = some (.int .u8 0) := by rw [Lib.cell_of_heap hz]; kernel_rfl
  have c62 : (w.alloc (.cells Tryz.zeroCells178 178)).cell? ⟨w.heap.size, 62, none⟩ = some (.int .u8 0) := by rw [Lib.cell_of_heap hz]; kernel_rfl
  have f64 : (w.alloc (.cells Tryz.zeroCells178 178)).frozen? ⟨w.heap.size, 64, none⟩ = false := Lib.frozen_of_heap hz 64
  have f63 : (w.alloc (.cells Tryz.zeroCells178 178)).frozen? ⟨w.heap.size, 63, none⟩ = false := Lib.frozen_of_heap hz 63
  have f62 : (w.alloc (.cells Tryz.zeroCells178 178)).frozen? ⟨w.heap.size, 62, none⟩ = false := Lib.frozen_of_heap hz 62
  have HB0 := Lib.hid (show Below w.heap.size w (w.alloc (.cells Tryz.zeroCells178 178)) from (Below.refl _ _).alloc (Nat.le_refl _) _)
  clear h hz
  go_enter Tryz.func153, Tryz.ntmps153
  go_wp2_with fail
  generalize w.alloc (.cells Tryz.zeroCells178 178) = W0 at *
  have HG := Lib.hid (Nat.le_refl w.heap.size)
  generalize hg : w.heap.size = g at c64 c63 c62 f64 f63 f62 HG ⊢
  have HGe := Lib.hid hg
  clear hg
  refine (H1.out _).mono ?_
  rintro e w' ⟨rfl, rfl⟩
  go_wp2_with fail
  refine (H2.out _ HB0.out).mono ?_
  rintro e w' ⟨rfl, rfl⟩
  go_wp2_with fail
  have C64 := Lib.hid c64
  have C63 := Lib.hid c63
  have C62 := Lib.hid c62
  have F64 := Lib.hid f64
  have F63 := Lib.hid f63
  have F62 := Lib.hid f62
  clear c64 c63 c62 f64 f63 f62 H1 H2
  have hadd : ∀ k : Nat, (⟨g, k, none⟩ : Addr).add 1 = ⟨g, k + 1, none⟩ := fun k => Go.WideShapes.add_plain _ _ _
  have hadd2 : ∀ k : Nat, (⟨g, k, none⟩ : Addr).add 2 = ⟨g, k + 2, none⟩ := fun k => Go.WideShapes.add_plain _ _ _
  have HAd := Lib.hid (And.intro hadd hadd2)
  clear hadd hadd2
  go_loopw [1, 13] (fun vu vi wr => (vu = .int .u64 n ∧ vi = .int .i64 65 ∧ wr = w') ∨ (16 ≤ n ∧ vu = .int .u64 ((n / 16 : Nat) : Int) ∧ vi = .int .i64 64 ∧ wr = w'.setCell ⟨g, 64, none⟩ (.int .u8 (hexc (n % 16)).toNat)) ∨ (16 ≤ n / 16 ∧ vu = .int .u64 ((n / 16 / 16 : Nat) : Int) ∧ vi = .int .i64 63 ∧ wr = (w'.setCell ⟨g, 64, none⟩ (.int .u8 (hexc (n % 16)).toNat)).setCell ⟨g, 63, none⟩ (.int .u8 (hexc (n / 16 % 16)).toNat))) (fun vu _ _ => (RowKit.intOf vu).toNat)
  case atStart => exact .inl ⟨rfl, rfl, rfl⟩
  case round =>
    have c64 := C64.out
    have f64 := F64.out
    rcases hrel with ⟨rfl, rfl, rfl⟩ | ⟨h16, rfl, rfl, rfl⟩ | ⟨h16, rfl, rfl, rfl⟩
    · by_cases h16 : 16 ≤ n
      · have ha := hex_and n hn
        have hs := hex_shr n hn
        have hd : ∀ h : n % 16 < (⟨#[48, 49, 50, 51, 52, 53, 54, 55, 56, 57, 97, 98, 99, 100, 101, 102, 103, 104, 105, 106, 107, 108, 109, 110, 111, 112, 113, 114, 115, 116, 117, 118, 119, 120, 121, 122]⟩ : ByteArray).size, (⟨#[48, 49, 50, 51, 52, 53, 54, 55, 56, 57, 97, 98, 99, 100, 101, 102, 103, 104, 105, 106, 107, 108, 109, 110, 111, 112, 113, 114, 115, 116, 117, 118, 119, 120, 121, 122]⟩ : ByteArray)[n % 16] = hexc (n % 16) := fun h => digs_at (n % 16) (by omega) h
        have b1 : (16 : Int) ≤ (n : Int) := by omega
        have b2 : ((n % 16 : Nat) : Int) < 36 := by omega
        have b3 : (0 : Int) ≤ ((n % 16 : Nat) : Int) := by omega
        generalize hm : n % 16 = m at *
        generalize hq : n / 16 = q at *
        have HM := Lib.hid hm
        have HQ := Lib.hid hq
        clear hm hq
        go_wp2_with fail
        exact ⟨.inr (.inl ⟨h16, by rw [show (n : Int) / 16 = (q : Int) by have := HQ.out; omega], rfl, by first | trivial | rfl⟩), by simp [RowKit.intOf]; omega⟩
      · have hd : ∀ h : n < (⟨#[48, 49, 50, 51, 52, 53, 54, 55, 56, 57, 97, 98, 99, 100, 101, 102, 103, 104, 105, 106, 107, 108, 109, 110, 111, 112, 113, 114, 115, 116, 117, 118, 119, 120, 121, 122]⟩ : ByteArray).size, (⟨#[48, 49, 50, 51, 52, 53, 54, 55, 56, 57, 97, 98, 99, 100, 101, 102, 103, 104, 105, 106, 107, 108, 109, 110, 111, 112, 113, 114, 115, 116, 117, 118, 119, 120, 121, 122]⟩ : ByteArray)[n] = hexc n := fun h => digs_at n (by omega) h
        have b1 : ¬ (16 : Int) ≤ (n : Int) := by omega
        have b2 : (n : Int) < 36 := by omega
        have b3 : (0 : Int) ≤ (n : Int) := by omega
        have hcv : (convert 84 9 (.slice (some ⟨g, 64, none⟩) 1 1)).run Tryz.prog (wr.setCell ⟨g, 64, none⟩ (.int .u8 (hexc n).toNat)) = .ok (.string (mkS [hexc n])) (wr.setCell ⟨g, 64, none⟩ (.int .u8 (hexc n).toNat)) := run_convert_bytes_back (P := Tryz.prog) (wr.setCell ⟨g, 64, none⟩ (.int .u8 (hexc n).toNat)) 84 9 5 ⟨g, 64, none⟩ 1 [hexc n] Tryz.underlying84 Tryz.underlying5 Tryz.underlying9 (fun j hj => by
          have hj0 : j = 0 := by simpa using hj
          subst hj0
          exact World.cell?_setCell_same _ _ _ c64)
        have HR := Lib.hid (hexF_small hexc n (by omega))
        have HBw := Lib.hid (show Below w.heap.size w (wr.setCell ⟨g, 64, none⟩ (.int .u8 (hexc n).toNat)) from HB0.out.setCell (p := ⟨g, 64, none⟩) (by rw [HGe.out]; exact Nat.le_refl _) _)
        clear h16
        go_wp2_with fail
        go_ret2
        exact ⟨by show _ = Ending.returned (.tuple #[.slice none 0 0, .string (mkS (hexF hexc _))]); rw [HR.out]; rfl, HBw.out⟩
    · have HQ := Lib.hid (show n / 16 < 256 by omega)
      have c63 : (w'.setCell ⟨g, 64, none⟩ (.int .u8 (hexc (n % 16)).toNat)).cell? ⟨g, 63, none⟩ = some (.int .u8 0) := by rw [World.cell?_setCell_other _ _ _ _ (by simp)]; exact C63.out
      have f63 : (w'.setCell ⟨g, 64, none⟩ (.int .u8 (hexc (n % 16)).toNat)).frozen? ⟨g, 63, none⟩ = false := by simpa using F63.out
      have d64 : (w'.setCell ⟨g, 64, none⟩ (.int .u8 (hexc (n % 16)).toNat)).cell? ⟨g, 64, none⟩ = some (.int .u8 (hexc (n % 16)).toNat) := World.cell?_setCell_same _ _ _ c64
      by_cases h17 : 16 ≤ n / 16
      · have ha := hex_and (n / 16) (by omega)
        have hs := hex_shr (n / 16) (by omega)
        have hd : ∀ h : n / 16 % 16 < (⟨#[48, 49, 50, 51, 52, 53, 54, 55, 56, 57, 97, 98, 99, 100, 101, 102, 103, 104, 105, 106, 107, 108, 109, 110, 111, 112, 113, 114, 115, 116, 117, 118, 119, 120, 121, 122]⟩ : ByteArray).size, (⟨#[48, 49, 50, 51, 52, 53, 54, 55, 56, 57, 97, 98, 99, 100, 101, 102, 103, 104, 105, 106, 107, 108, 109, 110, 111, 112, 113, 114, 115, 116, 117, 118, 119, 120, 121, 122]⟩ : ByteArray)[n / 16 % 16] = hexc (n / 16 % 16) := fun h => digs_at (n / 16 % 16) (by omega) h
        have b1 : (16 : Int) ≤ ((n / 16 : Nat) : Int) := by omega
        have b2 : ((n / 16 % 16 : Nat) : Int) < 36 := by omega
        have b3 : (0 : Int) ≤ ((n / 16 % 16 : Nat) : Int) := by omega
        have HLt := Lib.hid (show n / 16 / 16 < n / 16 by omega)
        clear h16 hn
        generalize n % 16 = m at *
        generalize n / 16 = q at *
        generalize hqq : q / 16 = qq at *
        generalize q % 16 = mm at *
        have HQQ := Lib.hid hqq
        clear hqq
        generalize w'.setCell ⟨g, 64, none⟩ (.int .u8 (hexc m).toNat) = W1 at *
        clear c64 f64 d64
        go_wp2_with fail
        exact ⟨.inr (.inr ⟨h17, by rw [show (q : Int) / 16 = (qq : Int) by have := HQQ.out; omega], rfl, by first | trivial | rfl⟩), by simp [RowKit.intOf]; have := HLt.out; omega⟩
      · have hd : ∀ h : n / 16 < (⟨#[48, 49, 50, 51, 52, 53, 54, 55, 56, 57, 97, 98, 99, 100, 101, 102, 103, 104, 105, 106, 107, 108, 109, 110, 111, 112, 113, 114, 115, 116, 117, 118, 119, 120, 121, 122]⟩ : ByteArray).size, (⟨#[48, 49, 50, 51, 52, 53, 54, 55, 56, 57, 97, 98, 99, 100, 101, 102, 103, 104, 105, 106, 107, 108, 109, 110, 111, 112, 113, 114, 115, 116, 117, 118, 119, 120, 121, 122]⟩ : ByteArray)[n / 16] = hexc (n / 16) := fun h => digs_at (n / 16) (by omega) h
        have HR := Lib.hid (show hexF hexc n = [hexc (n / 16), hexc (n % 16)] by rw [hexF_big hexc n (by omega), hexF_small hexc (n / 16) (by omega)]; rfl)
        have hcv : (convert 84 9 (.slice (some ⟨g, 63, none⟩) 2 2)).run Tryz.prog ((w'.setCell ⟨g, 64, none⟩ (.int .u8 (hexc (n % 16)).toNat)).setCell ⟨g, 63, none⟩ (.int .u8 (hexc (n / 16)).toNat)) = .ok (.string (mkS [hexc (n / 16), hexc (n % 16)])) ((w'.setCell ⟨g, 64, none⟩ (.int .u8 (hexc (n % 16)).toNat)).setCell ⟨g, 63, none⟩ (.int .u8 (hexc (n / 16)).toNat)) := run_convert_bytes_back (P := Tryz.prog) ((w'.setCell ⟨g, 64, none⟩ (.int .u8 (hexc (n % 16)).toNat)).setCell ⟨g, 63, none⟩ (.int .u8 (hexc (n / 16)).toNat)) 84 9 5 ⟨g, 63, none⟩ 2 [hexc (n / 16), hexc (n % 16)] Tryz.underlying84 Tryz.underlying5 Tryz.underlying9 (fun j hj => by
          have hj2 : j = 0 ∨ j = 1 := by simp at hj; omega
          rcases hj2 with rfl | rfl
          · exact World.cell?_setCell_same _ _ _ c63
          · exact (World.cell?_setCell_other _ _ _ _ (by show (⟨g, 63, none⟩ : Addr) ≠ (⟨g, 63, none⟩ : Addr).add 1; rw [HAd.out.1]; simp)).trans (by rw [HAd.out.1]; exact d64))
        have HBw := Lib.hid (show Below w.heap.size w ((w'.setCell ⟨g, 64, none⟩ (.int .u8 (hexc (n % 16)).toNat)).setCell ⟨g, 63, none⟩ (.int .u8 (hexc (n / 16)).toNat)) from (HB0.out.setCell (p := ⟨g, 64, none⟩) (by rw [HGe.out]; exact Nat.le_refl _) _).setCell (p := ⟨g, 63, none⟩) (by rw [HGe.out]; exact Nat.le_refl _) _)
        have b1 : ¬ (16 : Int) ≤ ((n / 16 : Nat) : Int) := by omega
        have b2 : ((n / 16 : Nat) : Int) < 36 := by omega
        have b3 : (0 : Int) ≤ ((n / 16 : Nat) : Int) := by omega
        clear h17
        generalize n / 16 = q at *
        generalize n % 16 = m at *
        generalize w'.setCell ⟨g, 64, none⟩ (.int .u8 (hexc m).toNat) = W1 at *
        clear c64 f64 d64 h16 hn
        go_wp2_with fail
        go_ret2
        exact ⟨by show _ = Ending.returned (.tuple #[.slice none 0 0, .string (mkS (hexF hexc _))]); rw [HR.out]; rfl, HBw.out⟩
    · have h18 : n / 16 / 16 < 16 := by omega
      have hd : ∀ h : n / 16 / 16 < (⟨#[48, 49, 50, 51, 52, 53, 54, 55, 56, 57, 97, 98, 99, 100, 101, 102, 103, 104, 105, 106, 107, 108, 109, 110, 111, 112, 113, 114, 115, 116, 117, 118, 119, 120, 121, 122]⟩ : ByteArray).size, (⟨#[48, 49, 50, 51, 52, 53, 54, 55, 56, 57, 97, 98, 99, 100, 101, 102, 103, 104, 105, 106, 107, 108, 109, 110, 111, 112, 113, 114, 115, 116, 117, 118, 119, 120, 121, 122]⟩ : ByteArray)[n / 16 / 16] = hexc (n / 16 / 16) := fun h => digs_at (n / 16 / 16) (by omega) h
      have d63 : (w'.setCell ⟨g, 64, none⟩ (.int .u8 (hexc (n % 16)).toNat)).cell? ⟨g, 63, none⟩ = some (.int .u8 0) := by rw [World.cell?_setCell_other _ _ _ _ (by simp)]; exact C63.out
      have e63 : ((w'.setCell ⟨g, 64, none⟩ (.int .u8 (hexc (n % 16)).toNat)).setCell ⟨g, 63, none⟩ (.int .u8 (hexc (n / 16 % 16)).toNat)).cell? ⟨g, 63, none⟩ = some (.int .u8 (hexc (n / 16 % 16)).toNat) := World.cell?_setCell_same _ _ _ d63
      have e64 : ((w'.setCell ⟨g, 64, none⟩ (.int .u8 (hexc (n % 16)).toNat)).setCell ⟨g, 63, none⟩ (.int .u8 (hexc (n / 16 % 16)).toNat)).cell? ⟨g, 64, none⟩ = some (.int .u8 (hexc (n % 16)).toNat) := by rw [World.cell?_setCell_other _ _ _ _ (by simp)]; exact World.cell?_setCell_same _ _ _ c64
      have c62 : ((w'.setCell ⟨g, 64, none⟩ (.int .u8 (hexc (n % 16)).toNat)).setCell ⟨g, 63, none⟩ (.int .u8 (hexc (n / 16 % 16)).toNat)).cell? ⟨g, 62, none⟩ = some (.int .u8 0) := by rw [World.cell?_setCell_other _ _ _ _ (by simp), World.cell?_setCell_other _ _ _ _ (by simp)]; exact C62.out
      have f62 : ((w'.setCell ⟨g, 64, none⟩ (.int .u8 (hexc (n % 16)).toNat)).setCell ⟨g, 63, none⟩ (.int .u8 (hexc (n / 16 % 16)).toNat)).frozen? ⟨g, 62, none⟩ = false := by simpa using F62.out
      have HR := Lib.hid (show hexF hexc n = [hexc (n / 16 / 16), hexc (n / 16 % 16), hexc (n % 16)] by rw [hexF_big hexc n (by omega), hexF_big hexc (n / 16) (by omega), hexF_small hexc (n / 16 / 16) (by omega)]; rfl)
      have HBw := Lib.hid (fun v => show Below w.heap.size w (((w'.setCell ⟨g, 64, none⟩ (.int .u8 (hexc (n % 16)).toNat)).setCell ⟨g, 63, none⟩ (.int .u8 (hexc (n / 16 % 16)).toNat)).setCell ⟨g, 62, none⟩ v) from ((HB0.out.setCell (p := ⟨g, 64, none⟩) (by rw [HGe.out]; exact Nat.le_refl _) _).setCell (p := ⟨g, 63, none⟩) (by rw [HGe.out]; exact Nat.le_refl _) _).setCell (p := ⟨g, 62, none⟩) (by rw [HGe.out]; exact Nat.le_refl _) _)
      have b1 : ¬ (16 : Int) ≤ ((n / 16 / 16 : Nat) : Int) := by omega
      have b2 : ((n / 16 / 16 : Nat) : Int) < 36 := by omega
      have b3 : (0 : Int) ≤ ((n / 16 / 16 : Nat) : Int) := by omega
      clear h16 hn h18 d63
      generalize n / 16 / 16 = q at *
      generalize n / 16 % 16 = mm at *
      generalize n % 16 = m at *
      generalize (w'.setCell ⟨g, 64, none⟩ (.int .u8 (hexc m).toNat)).setCell ⟨g, 63, none⟩ (.int .u8 (hexc mm).toNat) = W1 at *
      have hcv : (convert 84 9 (.slice (some ⟨g, 62, none⟩) 3 3)).run Tryz.prog (W1.setCell ⟨g, 62, none⟩ (.int .u8 (hexc q).toNat)) = .ok (.string (mkS [hexc q, hexc mm, hexc m])) (W1.setCell ⟨g, 62, none⟩ (.int .u8 (hexc q).toNat)) := run_convert_bytes_back (P := Tryz.prog) (W1.setCell ⟨g, 62, none⟩ (.int .u8 (hexc q).toNat)) 84 9 5 ⟨g, 62, none⟩ 3 [hexc q, hexc mm, hexc m] Tryz.underlying84 Tryz.underlying5 Tryz.underlying9 (fun j hj => by
        have hj2 : j = 0 ∨ j = 1 ∨ j = 2 := by simp at hj; omega
        rcases hj2 with rfl | rfl | rfl
        · exact World.cell?_setCell_same _ _ _ c62
        · exact (World.cell?_setCell_other _ _ _ _ (by show (⟨g, 62, none⟩ : Addr) ≠ (⟨g, 62, none⟩ : Addr).add 1; rw [HAd.out.1]; simp)).trans (by rw [HAd.out.1]; exact e63)
        · exact (World.cell?_setCell_other _ _ _ _ (by show (⟨g, 62, none⟩ : Addr) ≠ (⟨g, 62, none⟩ : Addr).add 2; rw [HAd.out.2]; simp)).trans (by rw [HAd.out.2]; exact e64))
      clear c64 f64 e63 e64
      go_wp2_with fail
      go_ret2
      exact ⟨by show _ = Ending.returned (.tuple #[.slice none 0 0, .string (mkS (hexF hexc _))]); rw [HR.out]; rfl, HBw.out _⟩
end Tk
end Go.Proofs.YtdlbmfgajgefdaaGreatDoor
