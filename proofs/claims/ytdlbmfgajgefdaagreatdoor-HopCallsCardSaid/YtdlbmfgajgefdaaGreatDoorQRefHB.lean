/- The document's own Forward (layer 7). -/
import Derived.Test.YtdlbmfgajgefdaaGreatDoorQRefHA
import Derived.Test.YtdlbmfgajgefdaaGreatDoorQG
import Derived.Test.YtdlbmfgajgefdaaGreatDoorQH
namespace Go.Proofs.YtdlbmfgajgefdaaGreatDoor
open Go.RowKit
namespace Tk

theorem Box.set {w : World} {g : Nat} {T : TypeId} {cs : Array Value} (h : Box w g T cs) (i : Nat) (v : Value) : Box (w.setCell ⟨g, i, none⟩ v) g T (cs.setIfInBounds i v) := heap_setCell_same w g i cs T v h
theorem own_set {w : World} {B g n k : Nat} {v : Value} {xs : List Value} {e T : TypeId} {old : Array Value} (h : w.ownsRow B e k v n xs) (hb : Box w g T old) (hT : T ≠ e) (i : Nat) (u : Value) : (w.setCell ⟨g, i, none⟩ u).ownsRow B e k v n xs := by
  refine ⟨h.1, ?_⟩
  rcases h.2 with h2 | ⟨gr, cap, cur, hv, hge, hg, h2⟩
  · exact .inl h2
  · refine .inr ⟨gr, cap, cur, hv, hge, ?_, h2⟩
    rw [Below.heap_setCell _ _ _ _ (fun e2 => ?_)]
    · exact hg
    · simp only at e2
      subst e2
      have e3 := hg.symm.trans hb
      injection e3 with e3
      injection e3 with _ e4 _
      exact hT e4.symm
theorem Box.aside {w : World} {g k : Nat} {T : TypeId} {cs : Array Value} (h : Box w g T cs) (hk : g ≠ k) (i : Nat) (v : Value) : Box (w.setCell ⟨k, i, none⟩ v) g T cs := (Below.heap_setCell w ⟨k, i, none⟩ v g hk).trans h

theorem own_nl {w : World} {B n k : Nat} {v : Value} {xs : List Value} {e : TypeId} (h : w.ownsRow B e k v n xs) : ∀ m c, v = .slice none m c → c = 0 := by
  intro m c hv
  rcases h.2 with ⟨h2, -⟩ | ⟨g, cap, cur, h2, -⟩
  · rw [h2] at hv; injection hv with _ _ e; exact e.symm
  · rw [h2] at hv; injection hv with e; cases e

set_option maxHeartbeats 32000000 in
set_option maxRecDepth 100000 in
theorem rforward_any (M T : ByteArray) (s : Int) (R : ByteArray) (mi : Int) (vf : Value) (B : ByteArray) (vt : Value) (l : List (Bs × Bs)) (N : Bs) (w : World) (hs : IsFlds w vf l) (hz : sumF l ≤ 90000) (hl : l.length ≤ 1048570)
    (hN : N.length ≤ 1000000) (h0 : -9223372036854775808 ≤ mi) (h1 : mi ≤ 9223372036854775807) :
    Calls Tryz.prog 11 #[.agg (msgC M T s R mi vf B vt), .string (mkS N)] w (FwPost M T s R mi B l N w) := by
  obtain ⟨a, cap, rfl⟩ : ∃ a cap, vf = .slice a l.length cap := by obtain ⟨a, c, h, -⟩ := hs; exact ⟨a, c, h⟩
  have hX := Box.new w 24 (msgC M T s R mi (.slice a l.length cap) B vt)
  have hB0 := below_alloc w (.cells (msgC M T s R mi (.slice a l.length cap) B vt) 24)
  have hs1 : (w.alloc (.cells (msgC M T s R mi (.slice a l.length cap) B vt) 24)).heap.size = w.heap.size + 1 := by simp
  have hX2 := hX.later (below_alloc _ (.cells (msgC ⟨#[]⟩ ⟨#[]⟩ 0 ⟨#[]⟩ 0 (.slice none 0 0) ⟨#[]⟩ (.slice none 0 0)) 24))
  have hY2 := Box.new (w.alloc (.cells (msgC M T s R mi (.slice a l.length cap) B vt) 24)) 24 (msgC ⟨#[]⟩ ⟨#[]⟩ 0 ⟨#[]⟩ 0 (.slice none 0 0) ⟨#[]⟩ (.slice none 0 0))
  have hB2 := hB0.alloc hB0.size (.cells (msgC ⟨#[]⟩ ⟨#[]⟩ 0 ⟨#[]⟩ 0 (.slice none 0 0) ⟨#[]⟩ (.slice none 0 0)) 24)
  rw [hs1] at hY2
  have HTk : Hid (∀ W : World, Calls Tryz.prog 41 #[.string (mkS N)] W fun e w' => e = .returned (.bool (tokB N)) ∧ W = w') := fun W => by
    have h := rToken_any (mkS N) W (by rw [size_mkS]; omega)
    rw [bs_mkS] at h
    exact h
  have hsk := sum_kept (bs M) l
  have hlk := len_kept (bs M) l
  have hss : sumF (stripL l) ≤ 90000 := Nat.le_trans (sum_wipe _ _) hz
  have hls : (stripL l).length ≤ 1048570 := Nat.le_trans (wipe_len _ _) hl
  have hs2 : sumF (delF clB (stripL l)) ≤ 90000 := by rw [del_wipe]; exact Nat.le_trans (sum_wipe _ _) hss
  have hl2 : (delF clB (stripL l)).length ≤ 1048570 := Nat.le_trans (delF_len _ _) hls
  have hs3 : sumF (delF exB (delF clB (stripL l))) ≤ 90000 := by rw [del_wipe]; exact Nat.le_trans (sum_wipe _ _) hs2
  have hl3 : (delF exB (delF clB (stripL l))).length ≤ 1048570 := Nat.le_trans (delF_len _ _) hl2
  have HSt := Lib.hid (fun (W : World) (hb : Below w.heap.size w W) => rstrip_any (.slice a l.length cap) l W (isFlds_below hs hb) (by omega) hl)
  have HDc := Lib.hid (fun (W : World) (v : Value) (hf : IsFlds W v (stripL l)) => rdel_any v _ clB W hf (sum_each _ (by omega)) (by decide) (by omega))
  have HDe := Lib.hid (fun (W : World) (v : Value) (hf : IsFlds W v (delF clB (stripL l))) => rdel_any v _ exB W hf (sum_each _ (by omega)) (by decide) (by omega))
  have HAl := Lib.hid (fun (W : World) (v : Value) (hf : IsFlds W v (delF exB (delF clB (stripL l)))) => rall_any v _ hoB W hf (sum_each _ (by omega)) (by decide) (by omega))
  have HVi := Lib.hid (fun (W : World) (v : Value) (hf : IsFlds W v (keptL (bs M) l)) => rvia_any v (keptL (bs M) l) mi N W hf (by omega) (by omega) hN h0 h1)
  have hk0 : keptL (bs M) l = if bs M = [] then delF clB (stripL l) else hosL (delF exB (delF clB (stripL l))) := by unfold keptL; rw [with_one, with_two]
  have hfw : forwL (bs M) l mi N = viaL (keptL (bs M) l) mi N := rfl
  rw [← hfw] at HVi
  unfold OwnPost at HSt HDc HDe HVi
  unfold ListPost at HAl
  unfold FwPost
  have HX2 := Lib.hid hX2
  have HY2 := Lib.hid hY2
  have HB2 := Lib.hid hB2
  have HK0 := Lib.hid hk0
  have HL3 := Lib.hid hl3
  clear hs hz hl hN h0 h1 hX hX2 hY2 hB0 hB2 hsk hlk hss hls hs2 hl2 hs3 hl3 hfw hk0
  generalize keptL (bs M) l = K at *
  generalize forwL (bs M) l mi N = F at *
  generalize stripL l = SL at *
  unfold msgC at *
  cases ht : tokB N
  · rw [ht] at HTk
    simp only [Bool.false_eq_true, if_false]
    clear ht
    generalize mkS N = NN at *
    go_enter Tryz.func11, Tryz.ntmps11
    go_wp2_with fail
    refine (HTk.out _).mono ?_
    rintro e w3 ⟨rfl, rfl⟩
    go_wp2_with (refine wpList_store_row rfl 24 _ _ rfl (w.heap.size + 1) 24 _ #[.string ⟨#[]⟩, .string ⟨#[]⟩, .int .i64 0, .string ⟨#[]⟩, .int .i64 0, .slice none 0 0, .string ⟨#[]⟩, .slice none 0 0] rfl rfl HY2.out (by kernel_rfl) rfl (all_oneCell_toArray (List.all_eq_true.1 (by rfl))) ?_)
    refine bodyPost_ret (v := .tuple #[.agg #[.string ⟨#[]⟩, .string ⟨#[]⟩, .int .i64 0, .string ⟨#[]⟩, .int .i64 0, .slice none 0 0, .string ⟨#[]⟩, .slice none 0 0], .int .i64 4]) ?_ rfl ⟨below_setRow HB2.out (Nat.le_succ _) _, rfl⟩
    exact results_two (g := w.heap.size + 1) (t := 24) rfl _ _ _ (0, 0) _ _ rfl (Box.row HY2.out) Tryz.underlying24 rfl (by kernel_rfl) rfl
  · rw [ht] at HTk
    simp only [if_true]
    clear ht
    generalize mkS N = NN at *
    have hne : ¬ (w.heap.size = w.heap.size + 1) := Nat.ne_of_lt (Nat.lt_succ_self _)
    go_enter Tryz.func11, Tryz.ntmps11
    go_wp2_with fail
    refine (HTk.out _).mono ?_
    rintro e w3 ⟨rfl, rfl⟩
    go_wp2_with fail
    refine (HSt.out _ HB2.out).mono ?_
    rintro e w3 ⟨v3, rfl, ho, hb⟩
    have HF3 := Lib.hid (isFlds_own ho)
    obtain ⟨a3, c3, rfl⟩ : ∃ a c, v3 = .slice a SL.length c := by obtain ⟨a, c, h, -⟩ := HF3.out; exact ⟨a, c, h⟩
    clear ho
    have HX3 := Lib.hid (HX2.out.later hb)
    have HY3 := Lib.hid (HY2.out.later hb)
    have HB3 := Lib.hid (HB2.out.trans (hb.mono HB2.out.size))
    clear hb HX2 HY2 HB2 HSt
    go_wp2_with fail
    refine (HDc.out _ _ HF3.out).mono ?_
    rintro e w4 ⟨v4, rfl, ho, hb⟩
    obtain ⟨a4, c4, rfl⟩ : ∃ a c, v4 = .slice a (delF clB SL).length c := by obtain ⟨a, c, h, -⟩ := isFlds_own ho; exact ⟨a, c, h⟩
    have HX4 := Lib.hid (HX3.out.later hb)
    have HY4 := Lib.hid (HY3.out.later hb)
    have HO4 := Lib.hid (own_base ho HB3.out.size)
    have HB4 := Lib.hid (HB3.out.trans (hb.mono HB3.out.size))
    clear hb ho HX3 HY3 HB3 HDc HF3
    have hc4 := HX4.out.cell 5 _ rfl
    have hc40 := HX4.out.cell 0 _ rfl
    have hc44 := HX4.out.cell 4 _ rfl
    have hf45 : w4.frozen? ⟨w.heap.size, 5, none⟩ = false := Lib.frozen_of_heap HX4.out 5
    by_cases hM : bs M = []
    · have hMe : M = ⟨#[]⟩ := by
        apply ByteArray.ext
        exact Array.toList_eq_nil_iff.1 hM
      subst hMe
      have HK1 := HK0.out
      rw [if_pos hM] at HK1
      clear HK0 HDe HAl
      subst HK1
      go_wp2_with fail
      have HX5 := Lib.hid (HX4.out.set 5 (.slice a4 (delF clB SL).length c4))
      have HY5 := Lib.hid (HY4.out.aside (Ne.symm hne) 5 (.slice a4 (delF clB SL).length c4))
      have HO5 := Lib.hid (own_set HO4.out HX4.out (by decide) 5 (.slice a4 (delF clB SL).length c4))
      have HB5 := Lib.hid (HB4.out.setCell (p := ⟨w.heap.size, 5, none⟩) (Nat.le_refl _) (.slice a4 (delF clB SL).length c4))
      refine (HVi.out _ _ (isFlds_own HO5.out)).mono ?_
      rintro e w6 ⟨v6, rfl, ho, hb⟩
      obtain ⟨a6, c6, rfl⟩ : ∃ a c, v6 = .slice a F.length c := by obtain ⟨a, c, h, -⟩ := isFlds_own ho; exact ⟨a, c, h⟩
      have HX6 := Lib.hid (HX5.out.later hb)
      have HY6 := Lib.hid (HY5.out.later hb)
      have HO6 := Lib.hid (own_base ho HB5.out.size)
      have HB6 := Lib.hid (HB5.out.trans (hb.mono HB5.out.size))
      clear hb ho HX5 HY5 HB5 HVi HO5 HO4 HX4 HY4 HB4 hc4 hc40 hc44 hf45
      have hc60 := HX6.out.cell 0 _ rfl
      have hc61 := HX6.out.cell 1 _ rfl
      have hc62 := HX6.out.cell 2 _ rfl
      have hc63 := HX6.out.cell 3 _ rfl
      have hc64 := HX6.out.cell 4 _ rfl
      have hc65 := HX6.out.cell 5 _ rfl
      have hc66 := HX6.out.cell 6 _ rfl
      have hc67 := HX6.out.cell 7 _ rfl
      have hf64 : w6.frozen? ⟨w.heap.size, 4, none⟩ = false := Lib.frozen_of_heap HX6.out 4
      have hf65 : w6.frozen? ⟨w.heap.size, 5, none⟩ = false := Lib.frozen_of_heap HX6.out 5
      have hf67 : w6.frozen? ⟨w.heap.size, 7, none⟩ = false := Lib.frozen_of_heap HX6.out 7
      have HYE := Lib.hid (((HY6.out.aside (Ne.symm hne) 5 (.slice a6 F.length c6)).aside (Ne.symm hne) 4 (.int .i64 1)).aside (Ne.symm hne) 7 (.slice none 0 0))
      have HOE := Lib.hid (own_set (own_set (own_set HO6.out HX6.out (by decide) 5 (.slice a6 F.length c6)) (HX6.out.set 5 (.slice a6 F.length c6)) (by decide) 4 (.int .i64 1)) ((HX6.out.set 5 (.slice a6 F.length c6)).set 4 (.int .i64 1)) (by decide) 7 (.slice none 0 0))
      have HBE := Lib.hid (((HB6.out.setCell (p := ⟨w.heap.size, 5, none⟩) (Nat.le_refl _) (.slice a6 F.length c6)).setCell (p := ⟨w.heap.size, 4, none⟩) (Nat.le_refl _) (.int .i64 1)).setCell (p := ⟨w.heap.size, 7, none⟩) (Nat.le_refl _) (.slice none 0 0))
      clear HX6 HY6 HO6 HB6
      go_wp2_with (refine wpList_store_row rfl 24 _ _ rfl (w.heap.size + 1) 24 _ #[.string ⟨#[]⟩, .string T, .int .i64 s, .string R, .int .i64 1, .slice a6 F.length c6, .string B, .slice none 0 0] rfl rfl HYE.out (by kernel_rfl) rfl (all_oneCell_toArray (List.all_eq_true.1 (by rfl))) ?_)
      have HR := Lib.hid (Box.row (cs := #[.string ⟨#[]⟩, .string T, .int .i64 s, .string R, .int .i64 1, .slice a6 F.length c6, .string B, .slice none 0 0]) HYE.out)
      have HO := Lib.hid (own_row (cs := #[.string ⟨#[]⟩, .string T, .int .i64 s, .string R, .int .i64 1, .slice a6 F.length c6, .string B, .slice none 0 0]) HOE.out HYE.out (by decide))
      have HB := Lib.hid (below_setRow HBE.out (Nat.le_succ w.heap.size) #[.string ⟨#[]⟩, .string T, .int .i64 s, .string R, .int .i64 1, .slice a6 F.length c6, .string B, .slice none 0 0])
      refine bodyPost_ret (v := .tuple #[.agg #[.string ⟨#[]⟩, .string T, .int .i64 s, .string R, .int .i64 1, .slice a6 F.length c6, .string B, .slice none 0 0], .int .i64 0]) ?_ rfl ⟨HB.out, ⟨_, rfl, HO.out⟩⟩
      exact results_two (g := w.heap.size + 1) (t := 24) rfl _ _ _ (0, 0) _ _ rfl HR.out Tryz.underlying24 rfl (by kernel_rfl) rfl
    · have hMe : M.toList.isEmpty = false := by rw [toList_bs]; cases h : bs M with | nil => exact absurd h hM | cons _ _ => rfl
      have HK1 := HK0.out
      rw [if_neg hM] at HK1
      clear HK0
      go_wp2_with fail
      have HX5 := Lib.hid (HX4.out.set 5 (.slice a4 (delF clB SL).length c4))
      have HY5 := Lib.hid (HY4.out.aside (Ne.symm hne) 5 (.slice a4 (delF clB SL).length c4))
      have HO5 := Lib.hid (own_set HO4.out HX4.out (by decide) 5 (.slice a4 (delF clB SL).length c4))
      have HB5 := Lib.hid (HB4.out.setCell (p := ⟨w.heap.size, 5, none⟩) (Nat.le_refl _) (.slice a4 (delF clB SL).length c4))
      refine (HDe.out _ _ (isFlds_own HO5.out)).mono ?_
      rintro e w6 ⟨v6, rfl, ho, hb⟩
      obtain ⟨a6, c6, rfl⟩ : ∃ a c, v6 = .slice a (delF exB (delF clB SL)).length c := by obtain ⟨a, c, h, -⟩ := isFlds_own ho; exact ⟨a, c, h⟩
      have HX6 := Lib.hid (HX5.out.later hb)
      have HY6 := Lib.hid (HY5.out.later hb)
      have HO6 := Lib.hid (own_base ho HB5.out.size)
      have HB6 := Lib.hid (HB5.out.trans (hb.mono HB5.out.size))
      clear hb ho HX5 HY5 HB5 HDe HO5 HO4 HX4 HY4 HB4 hc4 hc40 hc44 hf45
      have hc65 := HX6.out.cell 5 _ rfl
      have hf65 : w6.frozen? ⟨w.heap.size, 5, none⟩ = false := Lib.frozen_of_heap HX6.out 5
      go_wp2_with fail
      have HX7 := Lib.hid (HX6.out.set 5 (.slice a6 (delF exB (delF clB SL)).length c6))
      have HY7 := Lib.hid (HY6.out.aside (Ne.symm hne) 5 (.slice a6 (delF exB (delF clB SL)).length c6))
      have HO7 := Lib.hid (own_set HO6.out HX6.out (by decide) 5 (.slice a6 (delF exB (delF clB SL)).length c6))
      have HB7 := Lib.hid (HB6.out.setCell (p := ⟨w.heap.size, 5, none⟩) (Nat.le_refl _) (.slice a6 (delF exB (delF clB SL)).length c6))
      generalize w6.setCell ⟨w.heap.size, 5, none⟩ (.slice a6 (delF exB (delF clB SL)).length c6) = w7 at *
      clear hc65 hf65 HX6 HY6 HO6 HB6
      refine (HAl.out _ _ (isFlds_own HO7.out)).mono ?_
      rintro e w8 ⟨v8, rfl, ho, hb⟩
      obtain ⟨a8, c8, rfl⟩ : ∃ a c, v8 = .slice a (allF (delF exB (delF clB SL)) hoB).length c := by obtain ⟨a, c, h, -⟩ := isStrs_own ho; exact ⟨a, c, h⟩
      have HX8 := Lib.hid (HX7.out.later hb)
      have HY8 := Lib.hid (HY7.out.later hb)
      have HO8 := Lib.hid (own_keep2f HO7.out hb)
      have HB8 := Lib.hid (HB7.out.trans (hb.mono HB7.out.size))
      clear hb ho HX7 HY7 HB7 HO7 HAl
      have hc85 := HX8.out.cell 5 _ rfl
      have hc84 := HX8.out.cell 4 _ rfl
      unfold hosL at HK1
      by_cases hq : 0 < (allF (delF exB (delF clB SL)) hoB).length
      · rw [if_pos hq] at HK1
        subst HK1
        generalize hlq : (allF (delF exB (delF clB SL)) hoB).length = q at *
        have hq1 : ¬ ((q : Int) = 0) := by omega
        have hq2 : ((q : Int) == 0) = false := by simp; omega
        go_wp2_with fail
        refine (HVi.out _ _ (isFlds_own HO8.out)).mono ?_
        rintro e w9 ⟨v9, rfl, ho, hb⟩
        obtain ⟨a9, c9, rfl⟩ : ∃ a c, v9 = .slice a F.length c := by obtain ⟨a, c, h, -⟩ := isFlds_own ho; exact ⟨a, c, h⟩
        have HX9 := Lib.hid (HX8.out.later hb)
        have HY9 := Lib.hid (HY8.out.later hb)
        have HO9 := Lib.hid (own_base ho HB8.out.size)
        have HB9 := Lib.hid (HB8.out.trans (hb.mono HB8.out.size))
        clear hb ho HX8 HY8 HB8 HVi HO8 hc85 hc84
        have hc90 := HX9.out.cell 0 _ rfl
        have hc91 := HX9.out.cell 1 _ rfl
        have hc92 := HX9.out.cell 2 _ rfl
        have hc93 := HX9.out.cell 3 _ rfl
        have hc94 := HX9.out.cell 4 _ rfl
        have hc95 := HX9.out.cell 5 _ rfl
        have hc96 := HX9.out.cell 6 _ rfl
        have hc97 := HX9.out.cell 7 _ rfl
        have hf94 : w9.frozen? ⟨w.heap.size, 4, none⟩ = false := Lib.frozen_of_heap HX9.out 4
        have hf95 : w9.frozen? ⟨w.heap.size, 5, none⟩ = false := Lib.frozen_of_heap HX9.out 5
        have hf97 : w9.frozen? ⟨w.heap.size, 7, none⟩ = false := Lib.frozen_of_heap HX9.out 7
        have HYE := Lib.hid (((HY9.out.aside (Ne.symm hne) 5 (.slice a9 F.length c9)).aside (Ne.symm hne) 4 (.int .i64 1)).aside (Ne.symm hne) 7 (.slice none 0 0))
        have HOE := Lib.hid (own_set (own_set (own_set HO9.out HX9.out (by decide) 5 (.slice a9 F.length c9)) (HX9.out.set 5 (.slice a9 F.length c9)) (by decide) 4 (.int .i64 1)) ((HX9.out.set 5 (.slice a9 F.length c9)).set 4 (.int .i64 1)) (by decide) 7 (.slice none 0 0))
        have HBE := Lib.hid (((HB9.out.setCell (p := ⟨w.heap.size, 5, none⟩) (Nat.le_refl _) (.slice a9 F.length c9)).setCell (p := ⟨w.heap.size, 4, none⟩) (Nat.le_refl _) (.int .i64 1)).setCell (p := ⟨w.heap.size, 7, none⟩) (Nat.le_refl _) (.slice none 0 0))
        clear HX9 HY9 HO9 HB9
        go_wp2_with (refine wpList_store_row rfl 24 _ _ rfl (w.heap.size + 1) 24 _ #[.string M, .string T, .int .i64 s, .string R, .int .i64 1, .slice a9 F.length c9, .string B, .slice none 0 0] rfl rfl HYE.out (by kernel_rfl) rfl (all_oneCell_toArray (List.all_eq_true.1 (by rfl))) ?_)
        have HR := Lib.hid (Box.row (cs := #[.string M, .string T, .int .i64 s, .string R, .int .i64 1, .slice a9 F.length c9, .string B, .slice none 0 0]) HYE.out)
        have HO := Lib.hid (own_row (cs := #[.string M, .string T, .int .i64 s, .string R, .int .i64 1, .slice a9 F.length c9, .string B, .slice none 0 0]) HOE.out HYE.out (by decide))
        have HB := Lib.hid (below_setRow HBE.out (Nat.le_succ w.heap.size) #[.string M, .string T, .int .i64 s, .string R, .int .i64 1, .slice a9 F.length c9, .string B, .slice none 0 0])
        refine bodyPost_ret (v := .tuple #[.agg #[.string M, .string T, .int .i64 s, .string R, .int .i64 1, .slice a9 F.length c9, .string B, .slice none 0 0], .int .i64 0]) ?_ rfl ⟨HB.out, ⟨_, rfl, HO.out⟩⟩
        exact results_two (g := w.heap.size + 1) (t := 24) rfl _ _ _ (0, 0) _ _ rfl HR.out Tryz.underlying24 rfl (by kernel_rfl) rfl
      · rw [if_neg hq] at HK1
        subst HK1
        have h0 : (allF (delF exB (delF clB SL)) hoB).length = 0 := by omega
        rw [h0]
        have HNl := Lib.hid (own_nl HO8.out)
        have HFl := Lib.hid (isFlds_own HO8.out)
        have HLn := Lib.hid HL3.out
        clear hq h0 HO8
        generalize delF exB (delF clB SL) = F3 at *
        have hba := below_alloc w8 (Obj.cells #[] 32)
        have HF9 := Lib.hid (isFlds_below HFl.out hba)
        have HO9 := Lib.hid (World.ownsRow_lit (base := w8.heap.size) (e := 32) (size := 2) w8 #[] 0 (Nat.le_refl _) (by decide) rfl)
        have HX9 := Lib.hid (HX8.out.later hba)
        have HY9 := Lib.hid (HY8.out.later hba)
        have HB9 := Lib.hid (HB8.out.alloc HB8.out.size (Obj.cells #[] 32))
        have hs9 : w8.heap.size ≤ (w8.alloc (Obj.cells #[] 32)).heap.size := by simp
        have hc95 : (w8.alloc (Obj.cells #[] 32)).cell? ⟨w.heap.size, 5, none⟩ = some (.slice a6 F3.length c6) := HX9.out.cell 5 _ rfl
        have hx8 := HX8.out.lt
        have hy8 := HY8.out.lt
        clear hba hc85 hc84 HX8 HY8
        go_wp2_with (at_builtin; refine joinF_guarded (by rfl) _ _ rfl w8.heap.size _ _ [] F3 rfl rfl HO9.out HF9.out HNl.out hs9 (by simp) (by have := HLn.out; omega) ?_)
        intro v10 w10 ho hg
        have hb10 := below_of_grownF hg HO9.out hs9
        try rw [List.nil_append] at ho
        obtain ⟨a10, c10, rfl⟩ : ∃ a c, v10 = .slice a F3.length c := by obtain ⟨a, c, h, -⟩ := isFlds_own ho; exact ⟨a, c, h⟩
        have hba := below_alloc w10 (Obj.cells #[.string (mkS hoB), .string (mkS [])] 32)
        have HX11 := Lib.hid (Box.later ((hb10.block _ hx8).trans HX9.out : Box w10 w.heap.size _ _) hba)
        have HY11 := Lib.hid (Box.later ((hb10.block _ hy8).trans HY9.out : Box w10 (w.heap.size + 1) _ _) hba)
        have HO11 := Lib.hid (own_keep2f ho hba)
        have HF11 := Lib.hid (isFlds_lit w10 hoB [])
        have HB11 := Lib.hid ((HB9.out.trans (hb10.mono HB8.out.size)).alloc (Nat.le_trans HB9.out.size hb10.size) (Obj.cells #[.string (mkS hoB), .string (mkS [])] 32))
        have hs11 : w8.heap.size ≤ (w10.alloc (Obj.cells #[.string (mkS hoB), .string (mkS [])] 32)).heap.size := Nat.le_trans hs9 (Nat.le_trans hb10.size hba.size)
        clear hba hb10 ho hg HX9 HY9 HO9 HF9 hc95 hs9
        go_wp2_with (at_builtin; refine joinF_guarded (by rfl) _ _ rfl w8.heap.size _ _ F3 [(hoB, [])] rfl rfl HO11.out HF11.out (fun _ _ h => by injection h with h1; cases h1) hs11 (by have := HLn.out; omega) (by simp) ?_)
        intro v12 w12 ho hg
        have hb12 := below_of_grownF hg HO11.out hs11
        rw [show F3.length + 1 = (F3 ++ [(hoB, [])]).length by simp] at ho
        obtain ⟨a12, c12, rfl⟩ : ∃ a c, v12 = .slice a ((F3.length + 1 : Nat) : Nat) c := by obtain ⟨a, c, h, -⟩ := isFlds_own ho; exact ⟨a, c, by rw [h, List.length_append]; rfl⟩
        have HX12 := Lib.hid (show Box w12 w.heap.size _ _ from (hb12.block _ hx8).trans HX11.out)
        have HY12 := Lib.hid (show Box w12 (w.heap.size + 1) _ _ from (hb12.block _ hy8).trans HY11.out)
        have HB12 := Lib.hid (HB11.out.trans (hb12.mono HB8.out.size))
        have HO12 := Lib.hid (own_base ho HB8.out.size)
        clear ho hg hb12 HX11 HY11 HO11 HF11 HB11 hs11
        have hc85 := HX12.out.cell 5 _ rfl
        have hc84 := HX12.out.cell 4 _ rfl
        have hf125 : w12.frozen? ⟨w.heap.size, 5, none⟩ = false := Lib.frozen_of_heap HX12.out 5
        go_wp2_with fail
        have HX8 := Lib.hid (HX12.out.set 5 (.slice a12 (F3.length + 1) c12))
        have HY8 := Lib.hid (HY12.out.aside (Ne.symm hne) 5 (.slice a12 (F3.length + 1) c12))
        have HO8 := Lib.hid (own_set HO12.out HX12.out (by decide) 5 (.slice a12 (F3.length + 1) c12))
        have HB8 := Lib.hid (HB12.out.setCell (p := ⟨w.heap.size, 5, none⟩) (Nat.le_refl _) (.slice a12 (F3.length + 1) c12))
        clear hc85 hc84 hf125 HX12 HY12 HO12 HB12 HB9
        generalize w12.setCell ⟨w.heap.size, 5, none⟩ (.slice a12 (F3.length + 1) c12) = w8 at *
        have hc85 : True := trivial
        have hc84 : True := trivial
        refine (HVi.out _ _ (isFlds_own HO8.out)).mono ?_
        rintro e w9 ⟨v9, rfl, ho, hb⟩
        obtain ⟨a9, c9, rfl⟩ : ∃ a c, v9 = .slice a F.length c := by obtain ⟨a, c, h, -⟩ := isFlds_own ho; exact ⟨a, c, h⟩
        have HX9 := Lib.hid (HX8.out.later hb)
        have HY9 := Lib.hid (HY8.out.later hb)
        have HO9 := Lib.hid (own_base ho HB8.out.size)
        have HB9 := Lib.hid (HB8.out.trans (hb.mono HB8.out.size))
        clear hb ho HX8 HY8 HB8 HVi HO8 hc85 hc84
        have hc90 := HX9.out.cell 0 _ rfl
        have hc91 := HX9.out.cell 1 _ rfl
        have hc92 := HX9.out.cell 2 _ rfl
        have hc93 := HX9.out.cell 3 _ rfl
        have hc94 := HX9.out.cell 4 _ rfl
        have hc95 := HX9.out.cell 5 _ rfl
        have hc96 := HX9.out.cell 6 _ rfl
        have hc97 := HX9.out.cell 7 _ rfl
        have hf94 : w9.frozen? ⟨w.heap.size, 4, none⟩ = false := Lib.frozen_of_heap HX9.out 4
        have hf95 : w9.frozen? ⟨w.heap.size, 5, none⟩ = false := Lib.frozen_of_heap HX9.out 5
        have hf97 : w9.frozen? ⟨w.heap.size, 7, none⟩ = false := Lib.frozen_of_heap HX9.out 7
        have HYE := Lib.hid (((HY9.out.aside (Ne.symm hne) 5 (.slice a9 F.length c9)).aside (Ne.symm hne) 4 (.int .i64 1)).aside (Ne.symm hne) 7 (.slice none 0 0))
        have HOE := Lib.hid (own_set (own_set (own_set HO9.out HX9.out (by decide) 5 (.slice a9 F.length c9)) (HX9.out.set 5 (.slice a9 F.length c9)) (by decide) 4 (.int .i64 1)) ((HX9.out.set 5 (.slice a9 F.length c9)).set 4 (.int .i64 1)) (by decide) 7 (.slice none 0 0))
        have HBE := Lib.hid (((HB9.out.setCell (p := ⟨w.heap.size, 5, none⟩) (Nat.le_refl _) (.slice a9 F.length c9)).setCell (p := ⟨w.heap.size, 4, none⟩) (Nat.le_refl _) (.int .i64 1)).setCell (p := ⟨w.heap.size, 7, none⟩) (Nat.le_refl _) (.slice none 0 0))
        clear HX9 HY9 HO9 HB9
        go_wp2_with (refine wpList_store_row rfl 24 _ _ rfl (w.heap.size + 1) 24 _ #[.string M, .string T, .int .i64 s, .string R, .int .i64 1, .slice a9 F.length c9, .string B, .slice none 0 0] rfl rfl HYE.out (by kernel_rfl) rfl (all_oneCell_toArray (List.all_eq_true.1 (by rfl))) ?_)
        have HR := Lib.hid (Box.row (cs := #[.string M, .string T, .int .i64 s, .string R, .int .i64 1, .slice a9 F.length c9, .string B, .slice none 0 0]) HYE.out)
        have HO := Lib.hid (own_row (cs := #[.string M, .string T, .int .i64 s, .string R, .int .i64 1, .slice a9 F.length c9, .string B, .slice none 0 0]) HOE.out HYE.out (by decide))
        have HB := Lib.hid (below_setRow HBE.out (Nat.le_succ w.heap.size) #[.string M, .string T, .int .i64 s, .string R, .int .i64 1, .slice a9 F.length c9, .string B, .slice none 0 0])
        refine bodyPost_ret (v := .tuple #[.agg #[.string M, .string T, .int .i64 s, .string R, .int .i64 1, .slice a9 F.length c9, .string B, .slice none 0 0], .int .i64 0]) ?_ rfl ⟨HB.out, ⟨_, rfl, HO.out⟩⟩
        exact results_two (g := w.heap.size + 1) (t := 24) rfl _ _ _ (0, 0) _ _ rfl HR.out Tryz.underlying24 rfl (by kernel_rfl) rfl
end Tk
end Go.Proofs.YtdlbmfgajgefdaaGreatDoor
