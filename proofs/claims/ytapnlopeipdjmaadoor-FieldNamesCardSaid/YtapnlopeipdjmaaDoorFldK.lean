/- slices.DeleteFunc over fields. -/
import Derived.Test.YtapnlopeipdjmaaDoorFldJ
namespace Go.Proofs.YtapnlopeipdjmaaDoor
open Go.RowKit
namespace Tk

/-- the fields of other names -/
def delF (name : Bs) (l : List (Bs × Bs)) : List (Bs × Bs) := l.filter fun f => !isN name f
theorem delF_snoc (name : Bs) (l : List (Bs × Bs)) (f : Bs × Bs) : delF name (l ++ [f]) = delF name l ++ (if isN name f then [] else [f]) := by
  unfold delF
  cases h : isN name f <;> simp [h]
theorem delF_all (name : Bs) (l : List (Bs × Bs)) (h : ∀ f ∈ l, isN name f = false) : delF name l = l := by
  unfold delF
  rw [List.filter_eq_self]
  intro f hf
  rw [h f hf]; rfl
theorem delF_len (name : Bs) (l : List (Bs × Bs)) : (delF name l).length ≤ l.length := List.length_filter_le _ _
theorem find_hit (name : Bs) (l : List (Bs × Bs)) (h : l.findIdx (isN name) < l.length) : isN name (l.getD (l.findIdx (isN name)) ([], [])) = true := by
  have := List.findIdx_getElem (w := h)
  simpa [List.getD, h] using this
theorem find_before (name : Bs) (l : List (Bs × Bs)) : ∀ f ∈ l.take (l.findIdx (isN name)), isN name f = false := by
  intro f hf
  rw [List.mem_take_iff_getElem] at hf
  obtain ⟨j, hj, rfl⟩ := hf
  have := List.not_of_lt_findIdx (p := isN name) (xs := l) (i := j) (by omega)
  simpa using this
theorem find_none (name : Bs) (l : List (Bs × Bs)) (h : ¬ l.findIdx (isN name) < l.length) : ∀ f ∈ l, isN name f = false := by
  have : l.findIdx (isN name) = l.length := by
    have := List.findIdx_le_length (p := isN name) (xs := l); omega
  rwa [List.findIdx_eq_length] at this

/-- what DeleteFunc has done when it has gone through j fields and kept i -/
def Half (wr : World) (B gr cap : Nat) (name : Bs) (l : List (Bs × Bs)) (i j : Nat) : Prop :=
  ∃ K R : List (Bs × Bs), K = delF name (l.take j) ∧ K.length = i ∧ R.length = j - i ∧ wr.ownsRow B 24 2 (.slice (some ⟨gr, 0, none⟩) l.length cap) l.length (fcells (K ++ R ++ l.drop j))

def DelPost (B : Nat) (name : Bs) (l : List (Bs × Bs)) (w : World) (e : Ending) (w' : World) : Prop :=
  ∃ v', e = .returned v' ∧ IsFlds w' v' (delF name l) ∧ Below B w w'

set_option maxHeartbeats 8000000 in
set_option maxRecDepth 100000 in
theorem delf_any (v : Value) (l : List (Bs × Bs)) (name : Bs) (g B : Nat) (w : World) (ho : w.ownsRow B 24 2 v l.length (fcells l)) (hB : B ≤ w.heap.size) (hg : HasN w g name) (hne : v.ownBlock ≠ some g)
    (hz : ∀ f ∈ l, f.1.length ≤ 1099511627776 ∧ f.2.length ≤ 1099511627776) (hn : name.length ≤ 1099511627776) (hl : l.length ≤ 1048576) :
    Calls Tryd.prog 75 #[v, namedV g] w (DelPost B name l w) := by
  have HIx := index_any v g name l w (isFlds_own ho) hg hz hn hl
  have HZ := Lib.hid hz
  have HO := Lib.hid ho
  have HG := Lib.hid hg
  by_cases hidx : l.findIdx (isN name) < l.length
  · obtain ⟨gr, cap, hgr, hcap, rfl⟩ : ∃ gr cap, B ≤ gr ∧ l.length ≤ cap ∧ v = .slice (some ⟨gr, 0, none⟩) l.length cap := by
      rcases ho.2 with ⟨hv, hn⟩ | ⟨gr, cap, cur, hv, hb, hg, hcap, -⟩
      · omega
      · exact ⟨gr, cap, hb, hcap, hv⟩
    have hgne : gr ≠ g := by intro e; subst e; exact hne rfl
    have hix : idxF name l = (l.findIdx (isN name) : Int) := by unfold idxF; rw [if_pos hidx]
    rw [hix] at HIx
    have h1 := find_hit name l hidx
    have h2 := find_before name l
    clear hix ho hg hz hne
    generalize l.findIdx (isN name) = i0 at *
    have htk : l.take (i0 + 1) = l.take i0 ++ [l.getD i0 ([], [])] := by
      rw [List.take_succ_eq_append_getElem hidx]; simp [List.getD, hidx]
    have hdr : l.drop i0 = l.getD i0 ([], []) :: l.drop (i0 + 1) := by rw [List.drop_eq_getElem_cons hidx]; simp [List.getD, hidx]
    have HH0 : Hid (∀ W, W.ownsRow B 24 2 (.slice (some ⟨gr, 0, none⟩) l.length cap) l.length (fcells l) → Half W B gr cap name l i0 (i0 + 1)) := by
      intro W hW
      refine ⟨l.take i0, [l.getD i0 ([], [])], ?_, by simp; omega, by simp, ?_⟩
      · rw [htk, delF_snoc, h1, delF_all name _ h2]; simp
      · rw [← htk, List.take_append_drop]; exact hW
    have HI2 := Lib.hid HIx
    have m1 : ¬ ((i0 : Int) = -1) := by omega
    have m2 : ((i0 : Int) == -1) = false := by simp [m1]
    clear HIx h1 h2 htk hdr
    unfold namedV at HI2 ⊢
    go_enter Tryd.func75, Tryd.ntmps75
    go_wp2_with fail
    refine HI2.out.mono ?_
    rintro e w1 ⟨rfl, hb⟩
    have HB1 := Lib.hid (show Below B w w1 from hb.mono hB)
    have HG1 := Lib.hid (HG.out.later hb)
    have HO1 := Lib.hid (own_keep2f HO.out hb)
    clear hb
    go_wp2_with fail
    go_loopw [5, 6] (fun v5 v6 wr => ∃ i j : Nat, i < j ∧ j ≤ l.length ∧ v5 = .int .i64 i ∧ v6 = .int .i64 j ∧ Hid (Half wr B gr cap name l i j) ∧ Hid (Below B w wr) ∧ Hid (HasN wr g name)) (fun _ v6 _ => l.length - (RowKit.intOf v6).toNat)
    case atStart => exact ⟨i0, i0 + 1, by omega, hidx, rfl, by go_num, HH0.out _ HO1.out, HB1, HG1⟩
    case round =>
      obtain ⟨i, j, hij, hj, rfl, rfl, HR, HB, HN⟩ := hrel
      rename World => W
      by_cases hlt : j < l.length
      · obtain ⟨K, R, hK, hKi, hRl, hoW⟩ := HR.out
        obtain ⟨z, R', rfl⟩ : ∃ z R', R = z :: R' := by
          cases R with
          | nil => simp at hRl; omega
          | cons z R' => exact ⟨z, R', rfl⟩
        have hdr : l.drop j = l.getD j ([], []) :: l.drop (j + 1) := by rw [List.drop_eq_getElem_cons hlt]; simp [List.getD, hlt]
        have htk : l.take (j + 1) = l.take j ++ [l.getD j ([], [])] := by
          rw [List.take_succ_eq_append_getElem hlt]; simp [List.getD, hlt]
        have hm := HZ.out (l.getD j ([], [])) (by simp [List.getD, hlt])
        rw [hdr] at hoW
        generalize l.getD j ([], []) = f at *
        generalize hD : l.drop (j + 1) = D at *
        obtain ⟨n, x⟩ := f
        simp only at hm
        have hat := fcells_mid (K ++ z :: R') (n, x) D
        have hKR : (K ++ z :: R').length = j := by rw [List.length_append, hRl]; omega
        rw [hKR] at hat
        have hc0 := hoW.cellAt (j * 2) (by omega)
        have hc1 := hoW.cellAt (j * 2 + 1) (by omega)
        rw [hat.1] at hc0
        rw [hat.2] at hc1
        have HC := fun W : World => fun h : HasN W g name => named1_any g name n x W h hm.1 hn
        have HF0 := Lib.hid (Two.new W 24 (.string (mkS n)) (.string (mkS x)))
        have hb0 : Below W.heap.size W (W.alloc (Obj.cells #[.string (mkS n), .string (mkS x)] 24)) := (Below.refl _ _).alloc (Nat.le_refl _) _
        have HO2 := Lib.hid (own_keep2f hoW hb0)
        have HN2 := Lib.hid (HN.out.later hb0)
        have hBW : B ≤ W.heap.size := Nat.le_trans hB HB.out.size
        have HB2 := Lib.hid (HB.out.trans (hb0.mono hBW))
        have hq0 := HF0.out.c0
        have hq1 := HF0.out.c1
        have g0 : (0 : Int) ≤ (j : Int) := by omega
        have g1 : (j : Int) < (l.length : Int) := by omega
        have g2 : (0 : Int) ≤ (i : Int) := by omega
        have g3 : (i : Int) < (l.length : Int) := by omega
        have hs0 : B ≤ (W.alloc (Obj.cells #[.string (mkS n), .string (mkS x)] 24)).heap.size := by simp; omega
        have HTK := Lib.hid htk
        have HKK := Lib.hid hK
        have HKi := Lib.hid hKi
        have HRl := Lib.hid hRl
        have HD := Lib.hid hD
        clear hb0 hat hKR hoW htk hdr hK hRl hD
        cases hk : isN name (n, x)
        · rw [hk] at HC
          have hK2 : delF name (l.take (j + 1)) = K ++ [(n, x)] := by rw [HTK.out, delF_snoc, hk, ← HKK.out]; rfl
          have HK2 := Lib.hid hK2
          have HC2 := Lib.hid HC
          clear HC hk hK2
          go_wp2_with fail
          generalize W.alloc (Obj.cells #[.string (mkS n), .string (mkS x)] 24) = W4 at *
          generalize W.heap.size = gw at *
          refine (HC2.out _ HN2.out).mono ?_
          rintro e w5 ⟨rfl, hb⟩
          have ho5 := own_keep2f HO2.out hb
          have HB5 := Lib.hid (HB2.out.trans (hb.mono hs0))
          have HN5 := Lib.hid (HN2.out.later hb)
          have hF5 := HF0.out.later hb
          have q0 := hF5.c0
          have q1 := hF5.c1
          have k0 := ho5.cellAt (i * 2) (by omega)
          have k1 := ho5.cellAt (i * 2 + 1) (by omega)
          rw [show K ++ z :: R' ++ (n, x) :: D = K ++ z :: (R' ++ (n, x) :: D) by simp] at k0 k1 ho5
          have hmid := fcells_mid K z (R' ++ (n, x) :: D)
          rw [HKi.out] at hmid
          rw [hmid.1] at k0
          rw [hmid.2] at k1
          have f0 := ho5.frozenAt (i * 2)
          have f1 := ho5.frozenAt (i * 2 + 1)
          have HO5 := Lib.hid ho5
          have k2 : (w5.setCell ⟨gr, i * 2, none⟩ (.string (mkS n))).cell? ⟨gr, i * 2 + 1, none⟩ = some (.string (mkS z.2)) := by
            rw [World.cell?_setCell_other (w := w5) (a := ⟨gr, i * 2, none⟩) (b := ⟨gr, i * 2 + 1, none⟩) (h := by intro e; injection e with _ e2; omega)]; exact k1
          clear hb ho5 hmid hF5
          go_wp2_with fail
          have hst := own_put2 (a := K) HO5.out n x
          rw [HKi.out] at hst
          refine ⟨⟨i + 1, j + 1, by omega, hlt, by go_num, by go_num, ?_, ?_, ?_⟩, by simp [RowKit.intOf]; omega⟩
          · refine ⟨K ++ [(n, x)], R' ++ [(n, x)], HK2.out.symm, by rw [List.length_append, HKi.out]; rfl, ?_, ?_⟩
            · have := HRl.out
              simp at this ⊢; omega
            · rw [HD.out]
              simpa using hst
          · exact (HB5.out.setCell (p := ⟨gr, i * 2, none⟩) hgr _).setCell (p := ⟨gr, i * 2 + 1, none⟩) hgr _
          · show World.cell? _ _ = _
            rw [World.cell?_setCell_other (h := by intro e; injection e with e1 _; exact hgne e1), World.cell?_setCell_other (h := by intro e; injection e with e1 _; exact hgne e1)]
            exact HN5.out
        · rw [hk] at HC
          have hK2 : delF name (l.take (j + 1)) = K := by rw [HTK.out, delF_snoc, hk, ← HKK.out]; simp
          have HK2 := Lib.hid hK2
          have HC2 := Lib.hid HC
          clear HC hk hK2
          go_wp2_with fail
          generalize W.alloc (Obj.cells #[.string (mkS n), .string (mkS x)] 24) = W4 at *
          generalize W.heap.size = gw at *
          refine (HC2.out _ HN2.out).mono ?_
          rintro e w5 ⟨rfl, hb⟩
          have HO5 := Lib.hid (own_keep2f HO2.out hb)
          have HB5 := Lib.hid (HB2.out.trans (hb.mono hs0))
          have HN5 := Lib.hid (HN2.out.later hb)
          clear hb
          go_wp2_with fail
          refine ⟨⟨i, j + 1, by omega, hlt, rfl, by go_num, ?_, HB5, HN5⟩, by simp [RowKit.intOf]; omega⟩
          refine ⟨K, z :: R' ++ [(n, x)], HK2.out.symm, HKi.out, ?_, ?_⟩
          · have := HRl.out
            simp at this ⊢; omega
          · rw [HD.out]
            have := HO5.out
            simpa using this
      · obtain rfl : j = l.length := by omega
        obtain ⟨K, R, hK, hKi, hRl, hoW⟩ := HR.out
        rw [List.take_length] at hK
        have hcl : ∀ ty, (Builtin.clear_ #[26] ty #[.slice (some ⟨gr, i * 2, none⟩) (l.length - i) (cap - i)]).run Tryd.prog W = .ok (.tuple #[]) (W.setCells gr (i * 2) (zeros2 (l.length - i))) := fun ty =>
          run_clear2 W ty gr (i * 2) (l.length - i) (cap - i) (by omega) (fun t ht => by
            rw [hoW.cellAt (i * 2 + t) (by omega)]
            have : i * 2 + t < (fcells (K ++ R ++ l.drop l.length)).length := by rw [fcells_len]; simp; omega
            rw [List.getElem?_eq_getElem this]; rfl) (fun t _ => hoW.frozenAt _)
        have HOW := Lib.hid hoW
        have HK := Lib.hid hK
        have HKi := Lib.hid hKi
        have g2 : (0 : Int) ≤ (i : Int) := by omega
        have g3 : (i : Int) ≤ (l.length : Int) := by omega
        have g4 : (l.length : Int) ≤ (cap : Int) := by omega
        clear hoW hK hKi hRl
        go_wp2_with fail
        go_ret
        have hw := HOW.out
        refine ⟨_, rfl, ?_, below_setC hgr _ _ _ HB.out⟩
        rw [← HK.out]
        refine ⟨some ⟨gr, 0, none⟩, cap, by rw [HKi.out]; rfl, by rw [HKi.out]; omega, fun t f ht => ?_⟩
        have htl : t < i := by
          have := (List.getElem?_eq_some_iff.1 ht).1
          rw [HKi.out] at this; exact this
        have hget := fcells_get (K ++ R ++ l.drop l.length) t f (by rw [List.append_assoc, List.getElem?_append_left (by rw [HKi.out]; exact htl)]; exact ht)
        refine ⟨gr, 0, rfl, ?_, ?_⟩
        · rw [World.cell?_setCells_out _ _ _ _ _ (fun _ _ => Or.inl (by simp; omega)), Nat.zero_add, hw.cellAt (t * 2) (by omega)]
          exact hget.1
        · rw [World.cell?_setCells_out _ _ _ _ _ (fun _ _ => Or.inl (by simp; omega)), Nat.zero_add, hw.cellAt (t * 2 + 1) (by omega)]
          exact hget.2
  · have hall := find_none name l hidx
    have hix : idxF name l = -1 := by unfold idxF; rw [if_neg hidx]
    rw [hix] at HIx
    have HI2 := Lib.hid HIx
    have HA := Lib.hid (delF_all name l hall)
    obtain ⟨a, cap, rfl⟩ : ∃ a cap, v = .slice a l.length cap := by obtain ⟨a, c, h, -⟩ := isFlds_own ho; exact ⟨a, c, h⟩
    clear hall hix HIx ho hg hz hidx
    unfold namedV at HI2 ⊢
    go_enter Tryd.func75, Tryd.ntmps75
    go_wp2_with fail
    refine HI2.out.mono ?_
    rintro e w1 ⟨rfl, hb⟩
    have HB1 := Lib.hid (show Below B w w1 from hb.mono hB)
    have HF1 := Lib.hid (isFlds_below (isFlds_own HO.out) hb)
    clear hb
    go_wp2_with fail
    go_ret
    exact ⟨_, rfl, by rw [HA.out]; exact HF1.out, HB1.out⟩
end Tk
end Go.Proofs.YtapnlopeipdjmaaDoor
