/- FldK FldP FldQ FldT FldU HopP, put together. -/
import Derived.Test.YthooghgiokgdhaaGreatDoorQL
import Derived.Test.YthooghgiokgdhaaGreatDoorQG
import Derived.Deep.RegionHeld3
import Derived.Test.YthooghgiokgdhaaGreatDoorQC
import Derived.Lib.ItoaMem
namespace Go.Proofs.YthooghgiokgdhaaGreatDoor
open Go.RowKit
namespace Tk

/-- the fields of other names -/
def delF (name : Bs) (l : List (Bs × Bs)) : List (Bs × Bs) := l.filter fun f => !isN name f
theorem delF_snoc (name : Bs) (l : List (Bs × Bs)) (f : Bs × Bs) : delF name (l ++ [f]) = delF name l ++ (if isN name f then [] else [f]) := by
  unfold delF
  cases h : isN name f <;> simp [h]
theorem delF_all (name : Bs) (l : List (Bs × Bs)) (h : ∀ f ∈ l, isN name f = false) : delF name l = l := by
  unfold delF
  rw [List.filter_eq_self]
  intro f hf
  rw [h f hf]; rfl
theorem delF_len (name : Bs) (l : List (Bs × Bs)) : (delF name l).length ≤ l.length := List.length_filter_le _ _
theorem find_hit (name : Bs) (l : List (Bs × Bs)) (h : l.findIdx (isN name) < l.length) : isN name (l.getD (l.findIdx (isN name)) ([], [])) = true := by
  have := List.findIdx_getElem (w := h)
  simpa [List.getD, h] using this
theorem find_before (name : Bs) (l : List (Bs × Bs)) : ∀ f ∈ l.take (l.findIdx (isN name)), isN name f = false := by
  intro f hf
  rw [List.mem_take_iff_getElem] at hf
  obtain ⟨j, hj, rfl⟩ := hf
  have := List.not_of_lt_findIdx (p := isN name) (xs := l) (i := j) (by omega)
  simpa using this
theorem find_none (name : Bs) (l : List (Bs × Bs)) (h : ¬ l.findIdx (isN name) < l.length) : ∀ f ∈ l, isN name f = false := by
  have : l.findIdx (isN name) = l.length := by
    have := List.findIdx_le_length (p := isN name) (xs := l); omega
  rwa [List.findIdx_eq_length] at this

/-- what DeleteFunc has done when it has gone through j fields and kept i -/
def Half (wr : World) (B gr cap : Nat) (name : Bs) (l : List (Bs × Bs)) (i j : Nat) : Prop :=
  ∃ K R : List (Bs × Bs), K = delF name (l.take j) ∧ K.length = i ∧ R.length = j - i ∧ wr.ownsRow B 31 2 (.slice (some ⟨gr, 0, none⟩) l.length cap) l.length (fcells (K ++ R ++ l.drop j))

def DelPost (B : Nat) (name : Bs) (l : List (Bs × Bs)) (w : World) (e : Ending) (w' : World) : Prop :=
  ∃ v', e = .returned v' ∧ IsFlds w' v' (delF name l) ∧ Below B w w'

set_option maxHeartbeats 8000000 in
set_option maxRecDepth 100000 in
theorem delf_any (v : Value) (l : List (Bs × Bs)) (name : Bs) (g B : Nat) (w : World) (ho : w.ownsRow B 31 2 v l.length (fcells l)) (hB : B ≤ w.heap.size) (hg : HasN w g name) (hne : v.ownBlock ≠ some g)
    (hz : ∀ f ∈ l, f.1.length ≤ 1099511627776 ∧ f.2.length ≤ 1099511627776) (hn : name.length ≤ 1099511627776) (hl : l.length ≤ 1048576) :
    Calls Tryz.prog 175 #[v, namedV g] w (DelPost B name l w) := by
  have HIx := index_any v g name l w (isFlds_own ho) hg hz hn hl
  have HZ := Lib.hid hz
  have HO := Lib.hid ho
  have HG := Lib.hid hg
  by_cases hidx : l.findIdx (isN name) < l.length
  · obtain ⟨gr, cap, hgr, hcap, rfl⟩ : ∃ gr cap, B ≤ gr ∧ l.length ≤ cap ∧ v = .slice (some ⟨gr, 0, none⟩) l.length cap := by
      rcases ho.2 with ⟨hv, hn⟩ | ⟨gr, cap, cur, hv, hb, hg, hcap, -⟩
      · omega
      · exact ⟨gr, cap, hb, hcap, hv⟩
    have hgne : gr ≠ g := by intro e; subst e; exact hne rfl
    have hix : idxF name l = (l.findIdx (isN name) : Int) := by unfold idxF; rw [if_pos hidx]
    rw [hix] at HIx
    have h1 := find_hit name l hidx
    have h2 := find_before name l
    clear hix ho hg hz hne
    generalize l.findIdx (isN name) = i0 at *
    have htk : l.take (i0 + 1) = l.take i0 ++ [l.getD i0 ([], [])] := by
      rw [List.take_succ_eq_append_getElem hidx]; simp [List.getD, hidx]
    have hdr : l.drop i0 = l.getD i0 ([], []) :: l.drop (i0 + 1) := by rw [List.drop_eq_getElem_cons hidx]; simp [List.getD, hidx]
    have HH0 : Hid (∀ W, W.ownsRow B 31 2 (.slice (some ⟨gr, 0, none⟩) l.length cap) l.length (fcells l) → Half W B gr cap name l i0 (i0 + 1)) := by
      intro W hW
      refine ⟨l.take i0, [l.getD i0 ([], [])], ?_, by simp; omega, by simp, ?_⟩
      · rw [htk, delF_snoc, h1, delF_all name _ h2]; simp
      · rw [← htk, List.take_append_drop]; exact hW
    have HI2 := Lib.hid HIx
    have m1 : ¬ ((i0 : Int) = -1) := by omega
    have m2 : ((i0 : Int) == -1) = false := by simp [m1]
    clear HIx h1 h2 htk hdr
    unfold namedV at HI2 ⊢
    go_enter Tryz.func175, Tryz.ntmps175
    go_wp2_with fail
    refine HI2.out.mono ?_
    rintro e w1 ⟨rfl, hb⟩
    have HB1 := Lib.hid (show Below B w w1 from hb.mono hB)
    have HG1 := Lib.hid (HG.out.later hb)
    have HO1 := Lib.hid (own_keep2f HO.out hb)
    clear hb
    go_wp2_with fail
    go_loopw [5, 6] (fun v5 v6 wr => ∃ i j : Nat, i < j ∧ j ≤ l.length ∧ v5 = .int .i64 i ∧ v6 = .int .i64 j ∧ Hid (Half wr B gr cap name l i j) ∧ Hid (Below B w wr) ∧ Hid (HasN wr g name)) (fun _ v6 _ => l.length - (RowKit.intOf v6).toNat)
    case atStart => exact ⟨i0, i0 + 1, by omega, hidx, rfl, by go_num, HH0.out _ HO1.out, HB1, HG1⟩
    case round =>
      obtain ⟨i, j, hij, hj, rfl, rfl, HR, HB, HN⟩ := hrel
      rename World => W
      by_cases hlt : j < l.length
      · obtain ⟨K, R, hK, hKi, hRl, hoW⟩ := HR.out
        obtain ⟨z, R', rfl⟩ : ∃ z R', R = z :: R' := by
          cases R with
          | nil => simp at hRl; omega
          | cons z R' => exact ⟨z, R', rfl⟩
        have hdr : l.drop j = l.getD j ([], []) :: l.drop (j + 1) := by rw [List.drop_eq_getElem_cons hlt]; simp [List.getD, hlt]
        have htk : l.take (j + 1) = l.take j ++ [l.getD j ([], [])] := by
          rw [List.take_succ_eq_append_getElem hlt]; simp [List.getD, hlt]
        have hm := HZ.out (l.getD j ([], [])) (by simp [List.getD, hlt])
        rw [hdr] at hoW
        generalize l.getD j ([], []) = f at *
        generalize hD : l.drop (j + 1) = D at *
        obtain ⟨n, x⟩ := f
        simp only at hm
        have hat := fcells_mid (K ++ z :: R') (n, x) D
        have hKR : (K ++ z :: R').length = j := by rw [List.length_append, hRl]; omega
        rw [hKR] at hat
        have hc0 := hoW.cellAt (j * 2) (by omega)
        have hc1 := hoW.cellAt (j * 2 + 1) (by omega)
        rw [hat.1] at hc0
        rw [hat.2] at hc1
        have HC := fun W : World => fun h : HasN W g name => named1_any g name n x W h hm.1 hn
        have HF0 := Lib.hid (Two.new W 31 (.string (mkS n)) (.string (mkS x)))
        have hb0 : Below W.heap.size W (W.alloc (Obj.cells #[.string (mkS n), .string (mkS x)] 31)) := (Below.refl _ _).alloc (Nat.le_refl _) _
        have HO2 := Lib.hid (own_keep2f hoW hb0)
        have HN2 := Lib.hid (HN.out.later hb0)
        have hBW : B ≤ W.heap.size := Nat.le_trans hB HB.out.size
        have HB2 := Lib.hid (HB.out.trans (hb0.mono hBW))
        have hq0 := HF0.out.c0
        have hq1 := HF0.out.c1
        have g0 : (0 : Int) ≤ (j : Int) := by omega
        have g1 : (j : Int) < (l.length : Int) := by omega
        have g2 : (0 : Int) ≤ (i : Int) := by omega
        have g3 : (i : Int) < (l.length : Int) := by omega
        have hs0 : B ≤ (W.alloc (Obj.cells #[.string (mkS n), .string (mkS x)] 31)).heap.size := by simp; omega
        have HTK := Lib.hid htk
        have HKK := Lib.hid hK
        have HKi := Lib.hid hKi
        have HRl := Lib.hid hRl
        have HD := Lib.hid hD
        clear hb0 hat hKR hoW htk hdr hK hRl hD
        cases hk : isN name (n, x)
        · rw [hk] at HC
          have hK2 : delF name (l.take (j + 1)) = K ++ [(n, x)] := by rw [HTK.out, delF_snoc, hk, ← HKK.out]; rfl
          have HK2 := Lib.hid hK2
          have HC2 := Lib.hid HC
          clear HC hk hK2
          go_wp2_with fail
          generalize W.alloc (Obj.cells #[.string (mkS n), .string (mkS x)] 31) = W4 at *
          generalize W.heap.size = gw at *
          refine (HC2.out _ HN2.out).mono ?_
          rintro e w5 ⟨rfl, hb⟩
          have ho5 := own_keep2f HO2.out hb
          have HB5 := Lib.hid (HB2.out.trans (hb.mono hs0))
          have HN5 := Lib.hid (HN2.out.later hb)
          have hF5 := HF0.out.later hb
          have q0 := hF5.c0
          have q1 := hF5.c1
          have k0 := ho5.cellAt (i * 2) (by omega)
          have k1 := ho5.cellAt (i * 2 + 1) (by omega)
          rw [show K ++ z :: R' ++ (n, x) :: D = K ++ z :: (R' ++ (n, x) :: D) by simp] at k0 k1 ho5
          have hmid := fcells_mid K z (R' ++ (n, x) :: D)
          rw [HKi.out] at hmid
          rw [hmid.1] at k0
          rw [hmid.2] at k1
          have f0 := ho5.frozenAt (i * 2)
          have f1 := ho5.frozenAt (i * 2 + 1)
          have HO5 := Lib.hid ho5
          have k2 : (w5.setCell ⟨gr, i * 2, none⟩ (.string (mkS n))).cell? ⟨gr, i * 2 + 1, none⟩ = some (.string (mkS z.2)) := by
            rw [World.cell?_setCell_other (w := w5) (a := ⟨gr, i * 2, none⟩) (b := ⟨gr, i * 2 + 1, none⟩) (h := by intro e; injection e with _ e2; omega)]; exact k1
          clear hb ho5 hmid hF5
          go_wp2_with fail
          have hst := own_put2 (a := K) HO5.out n x
          rw [HKi.out] at hst
          refine ⟨⟨i + 1, j + 1, by omega, hlt, by go_num, by go_num, ?_, ?_, ?_⟩, by simp [RowKit.intOf]; omega⟩
          · refine ⟨K ++ [(n, x)], R' ++ [(n, x)], HK2.out.symm, by rw [List.length_append, HKi.out]; rfl, ?_, ?_⟩
            · have := HRl.out
              simp at this ⊢; omega
            · rw [HD.out]
              simpa using hst
          · exact (HB5.out.setCell (p := ⟨gr, i * 2, none⟩) hgr _).setCell (p := ⟨gr, i * 2 + 1, none⟩) hgr _
          · show World.cell? _ _ = _
            rw [World.cell?_setCell_other (h := by intro e; injection e with e1 _; exact hgne e1), World.cell?_setCell_other (h := by intro e; injection e with e1 _; exact hgne e1)]
            exact HN5.out
        · rw [hk] at HC
          have hK2 : delF name (l.take (j + 1)) = K := by rw [HTK.out, delF_snoc, hk, ← HKK.out]; simp
          have HK2 := Lib.hid hK2
          have HC2 := Lib.hid HC
          clear HC hk hK2
          go_wp2_with fail
          generalize W.alloc (Obj.cells #[.string (mkS n), .string (mkS x)] 31) = W4 at *
          generalize W.heap.size = gw at *
          refine (HC2.out _ HN2.out).mono ?_
          rintro e w5 ⟨rfl, hb⟩
          have HO5 := Lib.hid (own_keep2f HO2.out hb)
          have HB5 := Lib.hid (HB2.out.trans (hb.mono hs0))
          have HN5 := Lib.hid (HN2.out.later hb)
          clear hb
          go_wp2_with fail
          refine ⟨⟨i, j + 1, by omega, hlt, rfl, by go_num, ?_, HB5, HN5⟩, by simp [RowKit.intOf]; omega⟩
          refine ⟨K, z :: R' ++ [(n, x)], HK2.out.symm, HKi.out, ?_, ?_⟩
          · have := HRl.out
            simp at this ⊢; omega
          · rw [HD.out]
            have := HO5.out
            simpa using this
      · obtain rfl : j = l.length := by omega
        obtain ⟨K, R, hK, hKi, hRl, hoW⟩ := HR.out
        rw [List.take_length] at hK
        have hcl : ∀ ty, (Builtin.clear_ #[22] ty #[.slice (some ⟨gr, i * 2, none⟩) (l.length - i) (cap - i)]).run Tryz.prog W = .ok (.tuple #[]) (W.setCells gr (i * 2) (zeros2 (l.length - i))) := fun ty =>
          run_clear2 W ty gr (i * 2) (l.length - i) (cap - i) (by omega) (fun t ht => by
            rw [hoW.cellAt (i * 2 + t) (by omega)]
            have : i * 2 + t < (fcells (K ++ R ++ l.drop l.length)).length := by rw [fcells_len]; simp; omega
            rw [List.getElem?_eq_getElem this]; rfl) (fun t _ => hoW.frozenAt _)
        have HOW := Lib.hid hoW
        have HK := Lib.hid hK
        have HKi := Lib.hid hKi
        have g2 : (0 : Int) ≤ (i : Int) := by omega
        have g3 : (i : Int) ≤ (l.length : Int) := by omega
        have g4 : (l.length : Int) ≤ (cap : Int) := by omega
        clear hoW hK hKi hRl
        go_wp2_with fail
        go_ret
        have hw := HOW.out
        refine ⟨_, rfl, ?_, below_setC hgr _ _ _ HB.out⟩
        rw [← HK.out]
        refine ⟨some ⟨gr, 0, none⟩, cap, by rw [HKi.out]; rfl, by rw [HKi.out]; omega, fun t f ht => ?_⟩
        have htl : t < i := by
          have := (List.getElem?_eq_some_iff.1 ht).1
          rw [HKi.out] at this; exact this
        have hget := fcells_get (K ++ R ++ l.drop l.length) t f (by rw [List.append_assoc, List.getElem?_append_left (by rw [HKi.out]; exact htl)]; exact ht)
        refine ⟨gr, 0, rfl, ?_, ?_⟩
        · rw [World.cell?_setCells_out _ _ _ _ _ (fun _ _ => Or.inl (by simp; omega)), Nat.zero_add, hw.cellAt (t * 2) (by omega)]
          exact hget.1
        · rw [World.cell?_setCells_out _ _ _ _ _ (fun _ _ => Or.inl (by simp; omega)), Nat.zero_add, hw.cellAt (t * 2 + 1) (by omega)]
          exact hget.2
  · have hall := find_none name l hidx
    have hix : idxF name l = -1 := by unfold idxF; rw [if_neg hidx]
    rw [hix] at HIx
    have HI2 := Lib.hid HIx
    have HA := Lib.hid (delF_all name l hall)
    obtain ⟨a, cap, rfl⟩ : ∃ a cap, v = .slice a l.length cap := by obtain ⟨a, c, h, -⟩ := isFlds_own ho; exact ⟨a, c, h⟩
    clear hall hix HIx ho hg hz hidx
    unfold namedV at HI2 ⊢
    go_enter Tryz.func175, Tryz.ntmps175
    go_wp2_with fail
    refine HI2.out.mono ?_
    rintro e w1 ⟨rfl, hb⟩
    have HB1 := Lib.hid (show Below B w w1 from hb.mono hB)
    have HF1 := Lib.hid (isFlds_below (isFlds_own HO.out) hb)
    clear hb
    go_wp2_with fail
    go_ret
    exact ⟨_, rfl, by rw [HA.out]; exact HF1.out, HB1.out⟩
end Tk
end Go.Proofs.YthooghgiokgdhaaGreatDoor
namespace Go.Proofs.YthooghgiokgdhaaGreatDoor
open Go.RowKit
namespace Tk

theorem own_base {w : World} {B B2 n : Nat} {v : Value} {xs : List Value} {e : TypeId} (h : w.ownsRow B e 2 v n xs) (hb : B2 ≤ B) : w.ownsRow B2 e 2 v n xs := by
  refine ⟨h.1, ?_⟩
  rcases h.2 with h2 | ⟨g, cap, cur, hv, hge, h2⟩
  · exact .inl h2
  · exact .inr ⟨g, cap, cur, hv, Nat.le_trans hb hge, h2⟩
theorem ownBlock_lt {w : World} {B n : Nat} {v : Value} {xs : List Value} {e : TypeId} (h : w.ownsRow B e 2 v n xs) : v.ownBlock ≠ some w.heap.size := by
  intro hh
  have := (h.lt _ hh).2
  omega

set_option maxHeartbeats 4000000 in
set_option maxRecDepth 100000 in
theorem fdel_any (v : Value) (l : List (Bs × Bs)) (name : Bs) (w : World) (hs : IsFlds w v l) (hnl : ∀ n c, v = .slice none n c → c = 0)
    (hz : ∀ f ∈ l, f.1.length ≤ 1099511627776 ∧ f.2.length ≤ 1099511627776) (hn : name.length ≤ 1099511627776) (hl : l.length ≤ 1048576) :
    Calls Tryz.prog 108 #[v, .string (mkS name)] w (OwnPost (delF name l) w) := by
  have HZ := Lib.hid hz
  have HZ2 : Hid (∀ f ∈ delF name l, f.1.length ≤ 1099511627776 ∧ f.2.length ≤ 1099511627776) := fun f hf => hz f (List.mem_filter.1 hf).1
  have hl2 : (delF name l).length ≤ 1048576 := Nat.le_trans (delF_len name l) hl
  have HCl := Lib.hid (sclone_any v l w hs hnl hl)
  have HN := Lib.hid (fun W : World => named_any name W)
  unfold OwnPost at HCl ⊢
  obtain ⟨a, cap, rfl⟩ : ∃ a cap, v = .slice a l.length cap := by obtain ⟨a, c, h, -⟩ := hs; exact ⟨a, c, h⟩
  clear hs hnl hz
  go_enter Tryz.func108, Tryz.ntmps108
  go_wp2_with fail
  refine HCl.out.mono ?_
  rintro e w1 ⟨v1, rfl, ho, hb⟩
  have HO := Lib.hid ho
  have HB := Lib.hid hb
  clear ho hb
  go_wp2_with fail
  refine (HN.out _).mono ?_
  rintro e w2 ⟨rfl, hg, hb⟩
  have HD := Lib.hid (delf_any v1 l name w1.heap.size w.heap.size w2 (own_keep2f HO.out hb) (Nat.le_trans HB.out.size hb.size) hg (ownBlock_lt HO.out) HZ.out hn hl)
  have HB2 := Lib.hid (HB.out.trans (hb.mono HB.out.size))
  clear hg hb
  go_wp2_with fail
  refine HD.out.mono ?_
  rintro e w3 ⟨v3, rfl, hf, hb⟩
  have HB3 := Lib.hid (HB2.out.trans hb)
  have HC := Lib.hid (copied_any v3 (delF name l) w3 hf HZ2.out hl2)
  unfold OwnPost at HC
  clear hf hb
  go_wp2_with fail
  refine HC.out.mono ?_
  rintro e w4 ⟨v4, rfl, ho, hb⟩
  have HO4 := Lib.hid (own_base ho HB3.out.size)
  have HB4 := Lib.hid (HB3.out.trans (hb.mono HB3.out.size))
  clear ho hb
  go_wp2_with fail
  go_ret
  exact ⟨v4, rfl, HO4.out, HB4.out⟩
end Tk
end Go.Proofs.YthooghgiokgdhaaGreatDoor
namespace Go.Proofs.YthooghgiokgdhaaGreatDoor
open Go.RowKit
namespace Tk

def setF (name x : Bs) (l : List (Bs × Bs)) : List (Bs × Bs) :=
  if l.findIdx (isN name) < l.length then l.take (l.findIdx (isN name)) ++ ((l.getD (l.findIdx (isN name)) ([], [])).1, x) :: delF name (l.drop (l.findIdx (isN name) + 1))
  else l ++ [(name, x)]

theorem isFlds_one2 {w : World} {b o c : Nat} {n x : Bs} (hc : 1 ≤ c) (h0 : w.cell? ⟨b, o, none⟩ = some (.string (mkS n))) (h1 : w.cell? ⟨b, o + 1, none⟩ = some (.string (mkS x))) : IsFlds w (.slice (some ⟨b, o, none⟩) 1 c) [(n, x)] := by
  refine ⟨_, c, rfl, hc, fun j f hj => ⟨b, o, rfl, ?_⟩⟩
  match j, hj with
  | 0, hj => simp at hj; subst hj; exact ⟨by simpa using h0, by simpa using h1⟩
theorem isFlds_lit (w : World) (n x : Bs) : IsFlds (w.alloc (Obj.cells #[.string (mkS n), .string (mkS x)] 31)) (.slice (some ⟨w.heap.size, 0, none⟩) 1 1) [(n, x)] := by
  have hN := Two.new w 31 (.string (mkS n)) (.string (mkS x))
  exact isFlds_one2 (b := w.heap.size) (o := 0) (c := 1) (n := n) (x := x) (Nat.le_refl _) hN.c0 hN.c1

/-- a part of a list of fields in memory -/
theorem isFlds_take {w : World} {b o c n : Nat} {l : List (Bs × Bs)} (h : IsFlds w (.slice (some ⟨b, o, none⟩) n c) l) (i : Nat) (hi : i ≤ l.length) : IsFlds w (.slice (some ⟨b, o, none⟩) i c) (l.take i) := by
  obtain ⟨a', c', e', hcap, hc⟩ := h
  injection e' with e1 e3 e2
  subst e1 e2 e3
  have hl : (l.take i).length = i := by simp; omega
  refine ⟨some ⟨b, o, none⟩, c, by rw [hl], by rw [hl]; omega, fun j f hj => ?_⟩
  have hji : j < i := by
    have := (List.getElem?_eq_some_iff.1 hj).1
    rw [hl] at this; exact this
  rw [List.getElem?_take, if_pos hji] at hj
  exact hc j f hj
theorem isFlds_drop {w : World} {b o c n : Nat} {l : List (Bs × Bs)} (h : IsFlds w (.slice (some ⟨b, o, none⟩) n c) l) (i : Nat) (hi : i ≤ l.length) : IsFlds w (.slice (some ⟨b, o + i * 2, none⟩) (l.length - i) (c - i)) (l.drop i) := by
  obtain ⟨a', c', e', hcap, hc⟩ := h
  injection e' with e1 e3 e2
  subst e1 e2 e3
  have hl : (l.drop i).length = l.length - i := by simp
  refine ⟨some ⟨b, o + i * 2, none⟩, c - i, by rw [hl], by rw [hl]; omega, fun j f hj => ?_⟩
  rw [List.getElem?_drop] at hj
  obtain ⟨b', o', e, h0, h1⟩ := hc (i + j) f hj
  injection e with e
  injection e with e1 e2
  subst e1 e2
  exact ⟨b, o + i * 2, rfl, by rw [← h0]; congr 2; omega, by rw [← h1]; congr 2; omega⟩

theorem step_joinF {ops : Array Oper} {w w0 : World} {o : Oper} {a : Act} {K : Act → World → Prop} {Q : Exit → Act → World → Prop} {E : Prop} (hgd : o.guard = none) (s x : Operand)
    (ho : o.op = .call { callee := .builtin .append, args := #[s, x], argTypes := #[22, 22] })
    (base : Nat) (v v2 : Value) (P R : List (Bs × Bs)) (hs : a.eval s = v) (hx : a.eval x = v2) (h1 : w.ownsRow base 31 2 v P.length (fcells P)) (h2 : IsFlds w v2 R) (hnl : ∀ n c, v2 = .slice none n c → c = 0)
    (hB : base ≤ w.heap.size) (hP : P.length ≤ 1048576) (hR : R.length ≤ 1048576) (p : Addr) (u : Value) (_hp : p.block < base) (hcell : ∀ W, Below base w0 W → W.cell? p = some u) (hb : Below base w0 w)
    (h : ∀ v' w', w'.ownsRow base 31 2 v' (P ++ R).length (fcells (P ++ R)) → Below base w0 w' → w'.cell? p = some u → K (a.put o.dst v') w') :
    if Region.wanted o (yielded ops a.tmps) = true then Oper.wp Tryz.prog o a w K Q else E := by
  have hw : Region.wanted o (yielded ops a.tmps) = true := by simp [Region.wanted, hgd]
  rw [if_pos hw]
  refine joinF_run w o a K Q s x ho base v v2 P R hs hx h1 h2 hnl hB hP hR fun v' w' h3 h4 => ?_
  have hb2 := hb.trans (below_of_grownF h4 h1 hB)
  exact h v' w' h3 hb2 (hcell _ hb2)

end Tk
end Go.Proofs.YthooghgiokgdhaaGreatDoor
namespace Go.Proofs.YthooghgiokgdhaaGreatDoor
open Go.RowKit
namespace Tk

set_option maxHeartbeats 4000000 in
set_option maxRecDepth 100000 in
theorem join_none (c : Nat) (a : Option Addr) (sep : ByteArray) (w : World) :
    Calls Tryz.prog 99 #[.slice a 0 c, .string sep] w fun e w' => e = .returned (.string ⟨#[]⟩) ∧ Below w.heap.size w w' := by
  go_enter Tryz.func99, Tryz.ntmps99
  go_wp2_with fail
  go_ret
  exact ⟨rfl, Below.refl _ _⟩

set_option maxHeartbeats 4000000 in
set_option maxRecDepth 100000 in
theorem join_one (g c : Nat) (s sep : ByteArray) (w : World) (h : w.cell? ⟨g, 0, none⟩ = some (.string s)) :
    Calls Tryz.prog 99 #[.slice (some ⟨g, 0, none⟩) 1 c, .string sep] w fun e w' => e = .returned (.string s) ∧ Below w.heap.size w w' := by
  go_enter Tryz.func99, Tryz.ntmps99
  go_wp2_with fail
  go_ret
  exact ⟨rfl, Below.refl _ _⟩

/-- what Get tells of at most one value -/
def getS : List Bs → Bs
  | [x] => x
  | _ => []

set_option maxHeartbeats 4000000 in
set_option maxRecDepth 100000 in
theorem fget_one (v : Value) (l : List (Bs × Bs)) (name : Bs) (w : World) (hs : IsFlds w v l) (hz : ∀ f ∈ l, f.1.length ≤ 1099511627776 ∧ f.2.length ≤ 1099511627776) (hn : name.length ≤ 1099511627776) (hl : l.length ≤ 1048576)
    (h1 : (allF l name).length ≤ 1) :
    Calls Tryz.prog 283 #[v, .string (mkS name)] w fun e w' => e = .returned (.tuple #[.string (mkS (getS (allF l name))), .bool (decide (0 < (allF l name).length))]) ∧ Below w.heap.size w w' := by
  have HA := Lib.hid (fall_any v l name w hs hz hn hl)
  unfold ListPost at HA
  obtain ⟨a, cap, rfl⟩ : ∃ a cap, v = .slice a l.length cap := by obtain ⟨a, c, h, -⟩ := hs; exact ⟨a, c, h⟩
  clear hs hz
  generalize allF l name = P at *
  go_enter Tryz.func283, Tryz.ntmps283
  go_wp2_with fail
  refine HA.out.mono ?_
  rintro e w1 ⟨v1, rfl, ho, hb⟩
  have HB := Lib.hid hb
  rcases P with _ | ⟨x, P⟩
  · obtain ⟨a1, c1, rfl⟩ : ∃ a c, v1 = .slice a 0 c := by
      rcases ho.2 with ⟨hv, hn⟩ | ⟨g, cap, cur, hv, _⟩
      · exact ⟨none, 0, hv⟩
      · exact ⟨_, _, hv⟩
    clear ho hb
    go_wp2_with fail
    refine (join_none c1 a1 _ w1).mono ?_
    rintro e w2 ⟨rfl, hb⟩
    have HB2 := Lib.hid (HB.out.trans (hb.mono HB.out.size))
    clear hb
    go_wp2_with fail
    go_ret2
    exact ⟨rfl, HB2.out⟩
  · have hP : P = [] := by
      simp at h1
      exact h1
    subst hP
    obtain ⟨g, c1, rfl⟩ : ∃ g c, v1 = .slice (some ⟨g, 0, none⟩) 1 c := by
      rcases ho.2 with ⟨hv, hn⟩ | ⟨g, cap, cur, hv, _⟩
      · simp at hn
      · exact ⟨_, _, hv⟩
    have hc : w1.cell? ⟨g, 0, none⟩ = some (.string (mkS x)) := ho.cellAt 0 (by decide)
    clear ho hb
    go_wp2_with fail
    refine (join_one g c1 _ _ w1 hc).mono ?_
    rintro e w2 ⟨rfl, hb⟩
    have HB2 := Lib.hid (HB.out.trans (hb.mono HB.out.size))
    clear hb
    go_wp2_with fail
    go_ret2
    exact ⟨rfl, HB2.out⟩
end Tk
end Go.Proofs.YthooghgiokgdhaaGreatDoor
namespace Go.Proofs.YthooghgiokgdhaaGreatDoor
open Go.RowKit
namespace Tk

theorem allF_app (a b : List (Bs × Bs)) (name : Bs) : allF (a ++ b) name = allF a name ++ allF b name := by unfold allF; simp
theorem allF_none (l : List (Bs × Bs)) (name : Bs) (h : ∀ f ∈ l, isN name f = false) : allF l name = [] := by
  unfold allF
  rw [List.filter_eq_nil_iff.2 (fun f hf => by rw [h f hf]; simp)]; rfl
theorem allF_del (name : Bs) (l : List (Bs × Bs)) : allF (delF name l) name = [] := by
  refine allF_none _ _ fun f hf => ?_
  have := (List.mem_filter.1 hf).2
  simpa using this
theorem isN_other {name other : Bs} (h : lowL name ≠ lowL other) (f : Bs × Bs) (hf : isN other f = true) : isN name f = false := by
  unfold isN at *
  simp only [decide_eq_true_eq, decide_eq_false_iff_not] at *
  intro e; exact h (by rw [← e, ← hf])
theorem allF_del_other {name other : Bs} (h : lowL name ≠ lowL other) (l : List (Bs × Bs)) : allF (delF name l) other = allF l other := by
  unfold allF delF
  rw [List.filter_filter]
  congr 1
  apply List.filter_congr
  intro f _
  cases hf : isN other f
  · simp
  · simp [isN_other h f hf]
theorem delF_app (name : Bs) (a b : List (Bs × Bs)) : delF name (a ++ b) = delF name a ++ delF name b := by unfold delF; simp
theorem delF_del (name : Bs) (l : List (Bs × Bs)) : delF name (delF name l) = delF name l :=
  delF_all name _ fun f hf => by
    have := (List.mem_filter.1 hf).2
    simpa using this
theorem isN_eq (name : Bs) (f : Bs × Bs) (x : Bs) : isN name (f.1, x) = isN name f := rfl
theorem isN_self (name x : Bs) : isN name (name, x) = true := by simp [isN]

/-- a list with a field of this name, cut at the first of them -/
theorem cut_at (name : Bs) (l : List (Bs × Bs)) (h : l.findIdx (isN name) < l.length) :
    ∃ a f b, l = a ++ f :: b ∧ (∀ g ∈ a, isN name g = false) ∧ isN name f = true ∧ ∀ x, setF name x l = a ++ (f.1, x) :: delF name b := by
  refine ⟨l.take (l.findIdx (isN name)), l.getD (l.findIdx (isN name)) ([], []), l.drop (l.findIdx (isN name) + 1), ?_, find_before name l, find_hit name l h, fun x => ?_⟩
  · have : l.drop (l.findIdx (isN name)) = l.getD (l.findIdx (isN name)) ([], []) :: l.drop (l.findIdx (isN name) + 1) := by rw [List.drop_eq_getElem_cons h]; simp [List.getD, h]
    rw [← this, List.take_append_drop]
  · unfold setF; rw [if_pos h]

theorem allF_cons (f : Bs × Bs) (b : List (Bs × Bs)) (name : Bs) : allF (f :: b) name = (if isN name f then [f.2] else []) ++ allF b name := by
  unfold allF
  cases h : isN name f <;> simp [h]
theorem delF_cons (f : Bs × Bs) (b : List (Bs × Bs)) (name : Bs) : delF name (f :: b) = (if isN name f then [] else [f]) ++ delF name b := by
  unfold delF
  cases h : isN name f <;> simp [h]

theorem set_all (name x : Bs) (l : List (Bs × Bs)) : allF (setF name x l) name = [x] := by
  by_cases h : l.findIdx (isN name) < l.length
  · obtain ⟨a, f, b, -, ha, hf, hs⟩ := cut_at name l h
    rw [hs, allF_app, allF_none a name ha, allF_cons, isN_eq, hf, allF_del]; rfl
  · unfold setF
    rw [if_neg h, allF_app, allF_none l name (find_none name l h), allF_cons, isN_self]; rfl
theorem set_del (name x : Bs) (l : List (Bs × Bs)) : delF name (setF name x l) = delF name l := by
  by_cases h : l.findIdx (isN name) < l.length
  · obtain ⟨a, f, b, hl, ha, hf, hs⟩ := cut_at name l h
    rw [hs, hl, delF_app, delF_app, delF_cons, delF_cons, isN_eq, hf, delF_del]; rfl
  · unfold setF
    rw [if_neg h, delF_app, delF_cons, isN_self]
    show delF name l ++ ([] ++ delF name []) = delF name l
    simp [delF]
theorem set_len (name x : Bs) (l : List (Bs × Bs)) : (setF name x l).length = (delF name l).length + 1 := by
  by_cases h : l.findIdx (isN name) < l.length
  · obtain ⟨a, f, b, hl, ha, hf, hs⟩ := cut_at name l h
    rw [hs, hl, delF_app, delF_cons, hf, delF_all name a ha]; simp; omega
  · unfold setF
    rw [if_neg h, delF_all name l (find_none name l h)]; simp
theorem set_other {name other : Bs} (hne : lowL name ≠ lowL other) (x : Bs) (l : List (Bs × Bs)) : allF (setF name x l) other = allF l other := by
  have hno : ∀ f, isN name f = true → isN other f = false := fun f hf => isN_other (Ne.symm hne) f hf
  by_cases h : l.findIdx (isN name) < l.length
  · obtain ⟨a, f, b, hl, ha, hf, hs⟩ := cut_at name l h
    rw [hs, hl, allF_app, allF_app, allF_cons, allF_cons, isN_eq, hno f hf, allF_del_other hne]; rfl
  · unfold setF
    rw [if_neg h, allF_app, allF_cons, hno _ (isN_self name x)]
    simp [allF]
theorem del_set (name x : Bs) (l : List (Bs × Bs)) : setF name x (delF name l) = delF name l ++ [(name, x)] := by
  unfold setF
  rw [if_neg]
  intro h
  have h1 := find_hit name _ h
  have h2 := (List.mem_filter.1 (show (delF name l).getD ((delF name l).findIdx (isN name)) ([], []) ∈ delF name l by simp [List.getD, h])).2
  rw [h1] at h2
  cases h2
theorem sameFs_refl : ∀ l : List (Bs × Bs), sameFs l l = true
  | [] => rfl
  | f :: t => by rw [sameFs, sameFs_refl t]; simp [eqF]
end Tk
end Go.Proofs.YthooghgiokgdhaaGreatDoor
namespace Go.Proofs.YthooghgiokgdhaaGreatDoor
namespace Tk

/-- Connection, Via, Host, Content-Length, Expect -/
def cnB : Bs := [67, 111, 110, 110, 101, 99, 116, 105, 111, 110]
def viB : Bs := [86, 105, 97]
def hoB : Bs := [72, 111, 115, 116]
def clB : Bs := [67, 111, 110, 116, 101, 110, 116, 45, 76, 101, 110, 103, 116, 104]
def exB : Bs := [69, 120, 112, 101, 99, 116]
/-- the seven names -/
def hopN : List Bs := [[67, 111, 110, 110, 101, 99, 116, 105, 111, 110], [75, 101, 101, 112, 45, 65, 108, 105, 118, 101], [80, 114, 111, 120, 121, 45, 67, 111, 110, 110, 101, 99, 116, 105, 111, 110], [84, 69], [84, 114, 97, 105, 108, 101, 114], [84, 114, 97, 110, 115, 102, 101, 114, 45, 69, 110, 99, 111, 100, 105, 110, 103], [85, 112, 103, 114, 97, 100, 101]]
def hopL : List Bs := hopN.map lowL
def isHop (n : Bs) : Bool := decide (lowL n ∈ hopL)
/-- is the name of this field, in small letters, in the set? -/
def inS (S : List Bs) (f : Bs × Bs) : Bool := decide (lowL f.1 ∈ S)
/-- the fields whose names are not in the set -/
def wipe (S : List Bs) (l : List (Bs × Bs)) : List (Bs × Bs) := l.filter fun f => !inS S f
/-- what Connection names, in small letters -/
def optS (l : List (Bs × Bs)) : List Bs := (listF l cnB).map lowL
def goneS (more : List Bs) (l : List (Bs × Bs)) : List Bs := hopL ++ optS l ++ more.map lowL
def withL (more : List Bs) (l : List (Bs × Bs)) : List (Bs × Bs) := wipe (goneS more l) l
def stripL (l : List (Bs × Bs)) : List (Bs × Bs) := withL [] l
def digI (n : Int) : Bs := Lib.itoa n
def viaS (minor : Int) (name : Bs) : Bs := [49, 46] ++ digI minor ++ [32] ++ name
def viaV (l : List (Bs × Bs)) (minor : Int) (name : Bs) : Bs := if 0 < (allF l viB).length then joinB (allF l viB) ++ [44, 32] ++ viaS minor name else viaS minor name
def viaL (l : List (Bs × Bs)) (minor : Int) (name : Bs) : List (Bs × Bs) := setF viB (viaV l minor name) l
def hosL (l : List (Bs × Bs)) : List (Bs × Bs) := if 0 < (allF l hoB).length then l else l ++ [(hoB, [])]
def keptL (m : Bs) (l : List (Bs × Bs)) : List (Bs × Bs) := if m = [] then withL [clB] l else hosL (withL [clB, exB] l)
def forwL (m : Bs) (l : List (Bs × Bs)) (minor : Int) (name : Bs) : List (Bs × Bs) := viaL (keptL m l) minor name
def clsB : Bs := [99, 108, 111, 115, 101]
def kalB : Bs := [107, 101, 101, 112, 45, 97, 108, 105, 118, 101]
def closesB (l : List (Bs × Bs)) (minor : Int) : Bool := decide (clsB ∈ optS l) || (decide (minor = 0) && !decide (kalB ∈ optS l))

theorem hop_low : ∀ x ∈ hopL, lowL x = x := by decide
theorem cn_hop : lowL cnB ∈ hopL := by decide
theorem vi_hop : lowL viB ∉ hopL := by decide
theorem ho_hop : lowL hoB ∉ hopL := by decide
theorem vi_ho : lowL viB ≠ lowL hoB := by decide
theorem vi_cl : lowL viB ≠ lowL clB := by decide
theorem vi_ex : lowL viB ≠ lowL exB := by decide
theorem ho_cl : lowL hoB ≠ lowL clB := by decide
theorem ho_ex : lowL hoB ≠ lowL exB := by decide

theorem wipe_snoc (S : List Bs) (l : List (Bs × Bs)) (f : Bs × Bs) : wipe S (l ++ [f]) = wipe S l ++ (if inS S f then [] else [f]) := by
  unfold wipe
  cases h : inS S f <;> simp [h]
theorem wipe_app (S : List Bs) (a b : List (Bs × Bs)) : wipe S (a ++ b) = wipe S a ++ wipe S b := by unfold wipe; simp
theorem wipe_all (S : List Bs) (l : List (Bs × Bs)) (h : ∀ f ∈ l, inS S f = false) : wipe S l = l := by
  unfold wipe
  rw [List.filter_eq_self]
  intro f hf
  rw [h f hf]; rfl
theorem wipe_len (S : List Bs) (l : List (Bs × Bs)) : (wipe S l).length ≤ l.length := List.length_filter_le _ _
theorem wipe_mem (S : List Bs) (l : List (Bs × Bs)) (f : Bs × Bs) (h : f ∈ wipe S l) : f ∈ l ∧ lowL f.1 ∉ S := by
  have h2 := List.mem_filter.1 h
  refine ⟨h2.1, fun e => ?_⟩
  have := h2.2
  unfold inS at this
  rw [decide_eq_true e] at this
  cases this
theorem wipe_wipe (S T : List Bs) (l : List (Bs × Bs)) : wipe S (wipe T l) = wipe (T ++ S) l := by
  unfold wipe
  rw [List.filter_filter]
  apply List.filter_congr
  intro f _
  unfold inS
  rw [Bool.eq_iff_iff]
  simp [and_comm]
theorem wipe_congr (S T : List Bs) (l : List (Bs × Bs)) (h : ∀ x, x ∈ S ↔ x ∈ T) : wipe S l = wipe T l := by
  unfold wipe
  apply List.filter_congr
  intro f _
  unfold inS
  congr 2
  exact propext (h _)
theorem del_wipe (name : Bs) (l : List (Bs × Bs)) : delF name l = wipe [lowL name] l := by
  unfold delF wipe
  apply List.filter_congr
  intro f _
  unfold isN inS
  simp
theorem allF_wipe (S : List Bs) (l : List (Bs × Bs)) (name : Bs) : allF (wipe S l) name = if lowL name ∈ S then [] else allF l name := by
  unfold allF wipe
  rw [List.filter_filter]
  by_cases h : lowL name ∈ S
  · rw [if_pos h, List.filter_eq_nil_iff.2]; rfl
    intro f _
    unfold isN inS
    by_cases e : lowL f.1 = lowL name
    · simp [e, h]
    · simp [e]
  · rw [if_neg h]
    congr 1
    apply List.filter_congr
    intro f _
    unfold isN inS
    by_cases e : lowL f.1 = lowL name
    · simp [e, h]
    · simp [e]
theorem listF_wipe (S : List Bs) (l : List (Bs × Bs)) (name : Bs) (h : lowL name ∈ S) : listF (wipe S l) name = [] := by
  unfold listF; rw [allF_wipe, if_pos h]; rfl
theorem gone_hop (more : List Bs) (l : List (Bs × Bs)) (x : Bs) (h : x ∈ hopL) : x ∈ goneS more l := by unfold goneS; simp [h]
theorem opt_with (more : List Bs) (l : List (Bs × Bs)) : optS (withL more l) = [] := by
  unfold optS withL
  rw [listF_wipe _ _ _ (gone_hop more l _ cn_hop)]; rfl
theorem strip_strip (l : List (Bs × Bs)) : stripL (stripL l) = stripL l := by
  refine wipe_all _ _ fun f hf => ?_
  have h := (wipe_mem _ _ _ hf).2
  unfold inS goneS
  unfold goneS at h
  rw [show stripL l = withL [] l from rfl, opt_with]
  simp only [List.map_nil, List.append_nil] at *
  simp only [List.mem_append, not_or] at h
  simp [h.1]
theorem strip_all (l : List (Bs × Bs)) (name : Bs) : allF (stripL l) name = if lowL name ∈ hopL ∨ lowL name ∈ optS l then [] else allF l name := by
  unfold stripL withL
  rw [allF_wipe]
  unfold goneS
  simp
theorem strip_len (l : List (Bs × Bs)) : (stripL l).length ≤ l.length := wipe_len _ _
/-- what Forward leaves, in the document's steps -/
theorem with_one (a : Bs) (l : List (Bs × Bs)) : withL [a] l = delF a (stripL l) := by
  rw [del_wipe]
  unfold stripL withL
  rw [wipe_wipe]
  apply wipe_congr
  intro x
  unfold goneS
  simp
theorem with_two (a b : Bs) (l : List (Bs × Bs)) : withL [a, b] l = delF b (delF a (stripL l)) := by
  rw [del_wipe, del_wipe]
  unfold stripL withL
  rw [wipe_wipe, wipe_wipe]
  apply wipe_congr
  intro x
  unfold goneS
  simp

/-! ### what is passed on -/
theorem set_mem (name x : Bs) (l : List (Bs × Bs)) (f : Bs × Bs) (h : f ∈ setF name x l) : lowL f.1 = lowL name ∨ f ∈ l := by
  by_cases hc : l.findIdx (isN name) < l.length
  · obtain ⟨a, g, b, hl, ha, hg, hs⟩ := cut_at name l hc
    rw [hs] at h
    rw [hl]
    rcases List.mem_append.1 h with h | h
    · exact .inr (by simp [h])
    · rcases List.mem_cons.1 h with h | h
      · left
        rw [h]
        exact of_decide_eq_true hg
      · exact .inr (by simp [(List.mem_filter.1 h).1])
  · unfold setF at h
    rw [if_neg hc] at h
    rcases List.mem_append.1 h with h | h
    · exact .inr h
    · left
      rw [List.mem_singleton] at h
      rw [h]
theorem hos_mem (l : List (Bs × Bs)) (f : Bs × Bs) (h : f ∈ hosL l) : f ∈ l ∨ f = (hoB, []) := by
  unfold hosL at h
  split at h
  · exact .inl h
  · simpa using h
theorem forw_mem (m : Bs) (l : List (Bs × Bs)) (minor : Int) (p : Bs) (f : Bs × Bs) (h : f ∈ forwL m l minor p) :
    lowL f.1 = lowL viB ∨ (m ≠ [] ∧ lowL f.1 = lowL hoB) ∨ (lowL f.1 ∉ hopL ∧ lowL f.1 ∉ optS l ∧ lowL f.1 ≠ lowL clB ∧ (m ≠ [] → lowL f.1 ≠ lowL exB)) := by
  rcases set_mem _ _ _ _ h with h | h
  · exact .inl h
  unfold keptL at h
  by_cases hm : m = []
  · rw [if_pos hm] at h
    have h2 := (wipe_mem _ _ _ h).2
    unfold goneS at h2
    simp only [List.map_cons, List.map_nil, List.mem_append, List.mem_cons, List.not_mem_nil, or_false, not_or] at h2
    exact .inr (.inr ⟨h2.1.1, h2.1.2, h2.2, fun e => absurd hm e⟩)
  · rw [if_neg hm] at h
    rcases hos_mem _ _ h with h | h
    · have h2 := (wipe_mem _ _ _ h).2
      unfold goneS at h2
      simp only [List.map_cons, List.map_nil, List.mem_append, List.mem_cons, List.not_mem_nil, or_false, not_or] at h2
      exact .inr (.inr ⟨h2.1.1, h2.1.2, h2.2.1, fun _ => h2.2.2⟩)
    · exact .inr (.inl ⟨hm, by rw [h]⟩)
theorem forw_hop (m : Bs) (l : List (Bs × Bs)) (minor : Int) (p : Bs) (f : Bs × Bs) (h : f ∈ forwL m l minor p) : isHop f.1 = false := by
  unfold isHop
  rw [decide_eq_false_iff_not]
  rcases forw_mem m l minor p f h with h | ⟨-, h⟩ | h
  · rw [h]; exact vi_hop
  · rw [h]; exact ho_hop
  · exact h.1
theorem allF_pos (l : List (Bs × Bs)) (name : Bs) (h : 0 < (allF l name).length) : ∃ f ∈ l, lowL f.1 = lowL name := by
  unfold allF at h
  rw [List.length_map] at h
  obtain ⟨f, hf⟩ := List.exists_mem_of_length_pos h
  have := List.mem_filter.1 hf
  exact ⟨f, this.1, of_decide_eq_true this.2⟩
/-- a field that Connection named is not passed on, but for the proxy's own -/
theorem forw_named (m : Bs) (l : List (Bs × Bs)) (minor : Int) (p x : Bs) (hx : x ∈ listF l cnB) (h : 0 < (allF (forwL m l minor p) x).length) : lowL x = lowL viB ∨ (m ≠ [] ∧ lowL x = lowL hoB) := by
  obtain ⟨f, hf, he⟩ := allF_pos _ _ h
  have ho : lowL x ∈ optS l := List.mem_map.2 ⟨x, hx, rfl⟩
  rcases forw_mem m l minor p f hf with h | ⟨h1, h⟩ | h
  · exact .inl (by rw [← he, h])
  · exact .inr ⟨h1, by rw [← he, h]⟩
  · rw [he] at h
    exact absurd ho h.2.1
theorem forw_opt (m : Bs) (l : List (Bs × Bs)) (minor : Int) (p : Bs) : optS (forwL m l minor p) = [] := by
  unfold optS listF
  rw [allF_none]; rfl
  intro f hf
  have h := forw_hop m l minor p f hf
  unfold isHop at h
  rw [decide_eq_false_iff_not] at h
  unfold isN
  rw [decide_eq_false_iff_not]
  intro e
  rw [e] at h
  exact h cn_hop
theorem hos_has (l : List (Bs × Bs)) : 0 < (allF (hosL l) hoB).length := by
  unfold hosL
  split
  · assumption
  · rw [allF_app, allF_cons, isN_self, List.length_append]; simp; omega
/-- what is passed on again is passed on as it is -/
theorem forw_kept (m : Bs) (l : List (Bs × Bs)) (minor : Int) (p : Bs) : keptL m (forwL m l minor p) = forwL m l minor p := by
  have hm := forw_mem m l minor p
  have ho := forw_opt m l minor p
  have hin : ∀ (more : List Bs), (∀ x ∈ more, x = clB ∨ (m ≠ [] ∧ x = exB)) → withL more (forwL m l minor p) = forwL m l minor p := by
    intro more hmore
    refine wipe_all _ _ fun f hf => ?_
    unfold inS goneS
    rw [ho, decide_eq_false_iff_not]
    simp only [List.mem_append, List.not_mem_nil, or_false, not_or]
    have hno := forw_hop m l minor p f hf
    unfold isHop at hno
    rw [decide_eq_false_iff_not] at hno
    refine ⟨hno, fun h => ?_⟩
    rw [List.mem_map] at h
    obtain ⟨x, hx, e⟩ := h
    rcases hmore x hx with rfl | ⟨hne, rfl⟩
    · rcases hm f hf with h | ⟨-, h⟩ | h
      · exact vi_cl (h ▸ e.symm)
      · exact ho_cl (h ▸ e.symm)
      · exact h.2.2.1 e.symm
    · rcases hm f hf with h | ⟨-, h⟩ | h
      · exact vi_ex (h ▸ e.symm)
      · exact ho_ex (h ▸ e.symm)
      · exact h.2.2.2 hne e.symm
  unfold keptL
  by_cases hmm : m = []
  · rw [if_pos hmm]
    exact hin [clB] (by simp)
  · rw [if_neg hmm, hin [clB, exB] (by intro x hx; simp at hx; rcases hx with rfl | rfl; exact .inl rfl; exact .inr ⟨hmm, rfl⟩)]
    unfold hosL
    rw [if_pos]
    unfold forwL viaL
    rw [set_other vi_ho]
    unfold keptL
    rw [if_neg hmm]
    exact hos_has _
theorem forw_via (m : Bs) (l : List (Bs × Bs)) (minor : Int) (p : Bs) : allF (forwL m l minor p) viB = [viaV (keptL m l) minor p] := set_all _ _ _
theorem joinB_one (x : Bs) : joinB [x] = x := by unfold joinB Lib.join; simp [List.intercalate]
/-- passed on twice: one more name in Via .. -/
theorem forw_twice (m : Bs) (l : List (Bs × Bs)) (minor : Int) (p q : Bs) : joinB (allF (forwL m (forwL m l minor p) 1 q) viB) = joinB (allF (forwL m l minor p) viB) ++ ([44, 32] ++ viaS 1 q) := by
  rw [forw_via, joinB_one]
  unfold viaV
  rw [forw_kept, forw_via, if_pos (by simp), joinB_one, List.append_assoc]
/-- .. and otherwise the same -/
theorem forw_same (m : Bs) (l : List (Bs × Bs)) (minor : Int) (p q : Bs) : delF viB (forwL m (forwL m l minor p) 1 q) = delF viB (forwL m l minor p) := by
  show delF viB (setF viB (viaV (keptL m (forwL m l minor p)) 1 q) (keptL m (forwL m l minor p))) = _
  rw [forw_kept, set_del]
theorem via_has (m : Bs) (l : List (Bs × Bs)) (minor : Int) (p : Bs) : 0 < (allF (forwL m l minor p) viB).length := by rw [forw_via]; simp

/-! ### one more name in Connection -/
theorem strip_more (l : List (Bs × Bs)) (c y : Bs) (names : List Bs) (hc : lowL c = lowL cnB) (hy : splitL y = names) : stripL (l ++ [(c, y)]) = wipe (names.map lowL) (stripL l) := by
  have ho : optS (l ++ [(c, y)]) = optS l ++ names.map lowL := by
    unfold optS listF
    rw [allF_app, allF_cons, show isN cnB (c, y) = true from decide_eq_true hc]
    simp [allF, hy]
  unfold stripL withL goneS
  rw [ho, wipe_app, wipe_wipe]
  rw [show wipe (hopL ++ (optS l ++ names.map lowL) ++ List.map lowL []) [(c, y)] = [] by
    unfold wipe
    rw [List.filter_eq_nil_iff]
    intro f hf
    rw [List.mem_singleton] at hf
    subst hf
    unfold inS
    have : lowL c ∈ hopL := by rw [hc]; exact cn_hop
    simp [this]]
  rw [List.append_nil]
  apply wipe_congr
  intro x
  simp
end Tk
end Go.Proofs.YthooghgiokgdhaaGreatDoor
