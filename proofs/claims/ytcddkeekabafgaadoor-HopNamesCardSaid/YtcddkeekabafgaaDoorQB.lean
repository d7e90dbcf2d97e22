/- FldK FldP FldN FldQ FldT FldU TokA TokB TokC Same Join FldV HopP TokE, put together. -/
import Derived.Test.YtcddkeekabafgaaDoorQA
import Derived.Laws.StructEq
import Derived.IntWalk
import Derived.Deep.QuietTactic
import Derived.BigQuiet
import Derived.Deep.RegionHeld3
import Derived.Laws.AppendOwnNone
import Derived.BigFrame
import Derived.Deep.Onto
import Derived.Lib.Join
import Derived.Lib.ItoaMem
namespace Go.Proofs.YtcddkeekabafgaaDoor
open Go.RowKit
namespace Tk

/-- the fields of other names -/
def delF (name : Bs) (l : List (Bs × Bs)) : List (Bs × Bs) := l.filter fun f => !isN name f
theorem delF_snoc (name : Bs) (l : List (Bs × Bs)) (f : Bs × Bs) : delF name (l ++ [f]) = delF name l ++ (if isN name f then [] else [f]) := by
  unfold delF
  cases h : isN name f <;> simp [h]
theorem delF_all (name : Bs) (l : List (Bs × Bs)) (h : ∀ f ∈ l, isN name f = false) : delF name l = l := by
  unfold delF
  rw [List.filter_eq_self]
  intro f hf
  rw [h f hf]; rfl
theorem delF_len (name : Bs) (l : List (Bs × Bs)) : (delF name l).length ≤ l.length := List.length_filter_le _ _
theorem find_hit (name : Bs) (l : List (Bs × Bs)) (h : l.findIdx (isN name) < l.length) : isN name (l.getD (l.findIdx (isN name)) ([], [])) = true := by
  have := List.findIdx_getElem (w := h)
  simpa [List.getD, h] using this
theorem find_before (name : Bs) (l : List (Bs × Bs)) : ∀ f ∈ l.take (l.findIdx (isN name)), isN name f = false := by
  intro f hf
  rw [List.mem_take_iff_getElem] at hf
  obtain ⟨j, hj, rfl⟩ := hf
  have := List.not_of_lt_findIdx (p := isN name) (xs := l) (i := j) (by omega)
  simpa using this
theorem find_none (name : Bs) (l : List (Bs × Bs)) (h : ¬ l.findIdx (isN name) < l.length) : ∀ f ∈ l, isN name f = false := by
  have : l.findIdx (isN name) = l.length := by
    have := List.findIdx_le_length (p := isN name) (xs := l); omega
  rwa [List.findIdx_eq_length] at this

/-- what DeleteFunc has done when it has gone through j fields and kept i -/
def Half (wr : World) (B gr cap : Nat) (name : Bs) (l : List (Bs × Bs)) (i j : Nat) : Prop :=
  ∃ K R : List (Bs × Bs), K = delF name (l.take j) ∧ K.length = i ∧ R.length = j - i ∧ wr.ownsRow B 24 2 (.slice (some ⟨gr, 0, none⟩) l.length cap) l.length (fcells (K ++ R ++ l.drop j))

def DelPost (B : Nat) (name : Bs) (l : List (Bs × Bs)) (w : World) (e : Ending) (w' : World) : Prop :=
  ∃ v', e = .returned v' ∧ IsFlds w' v' (delF name l) ∧ Below B w w'

set_option maxHeartbeats 8000000 in
set_option maxRecDepth 100000 in
theorem delf_any (v : Value) (l : List (Bs × Bs)) (name : Bs) (g B : Nat) (w : World) (ho : w.ownsRow B 24 2 v l.length (fcells l)) (hB : B ≤ w.heap.size) (hg : HasN w g name) (hne : v.ownBlock ≠ some g)
    (hz : ∀ f ∈ l, f.1.length ≤ 1099511627776 ∧ f.2.length ≤ 1099511627776) (hn : name.length ≤ 1099511627776) (hl : l.length ≤ 1048576) :
    Calls Tryd.prog 46 #[v, namedV g] w (DelPost B name l w) := by
  have HIx := index_any v g name l w (isFlds_own ho) hg hz hn hl
  have HZ := Lib.hid hz
  have HO := Lib.hid ho
  have HG := Lib.hid hg
  by_cases hidx : l.findIdx (isN name) < l.length
  · obtain ⟨gr, cap, hgr, hcap, rfl⟩ : ∃ gr cap, B ≤ gr ∧ l.length ≤ cap ∧ v = .slice (some ⟨gr, 0, none⟩) l.length cap := by
      rcases ho.2 with ⟨hv, hn⟩ | ⟨gr, cap, cur, hv, hb, hg, hcap, -⟩
      · omega
      · exact ⟨gr, cap, hb, hcap, hv⟩
    have hgne : gr ≠ g := by intro e; subst e; exact hne rfl
    have hix : idxF name l = (l.findIdx (isN name) : Int) := by unfold idxF; rw [if_pos hidx]
    rw [hix] at HIx
    have h1 := find_hit name l hidx
    have h2 := find_before name l
    clear hix ho hg hz hne
    generalize l.findIdx (isN name) = i0 at *
    have htk : l.take (i0 + 1) = l.take i0 ++ [l.getD i0 ([], [])] := by
      rw [List.take_succ_eq_append_getElem hidx]; simp [List.getD, hidx]
    have hdr : l.drop i0 = l.getD i0 ([], []) :: l.drop (i0 + 1) := by rw [List.drop_eq_getElem_cons hidx]; simp [List.getD, hidx]
    have HH0 : Hid (∀ W, W.ownsRow B 24 2 (.slice (some ⟨gr, 0, none⟩) l.length cap) l.length (fcells l) → Half W B gr cap name l i0 (i0 + 1)) := by
      intro W hW
      refine ⟨l.take i0, [l.getD i0 ([], [])], ?_, by simp; omega, by simp, ?_⟩
      · rw [htk, delF_snoc, h1, delF_all name _ h2]; simp
      · rw [← htk, List.take_append_drop]; exact hW
    have HI2 := Lib.hid HIx
    have m1 : ¬ ((i0 : Int) = -1) := by omega
    have m2 : ((i0 : Int) == -1) = false := by simp [m1]
    clear HIx h1 h2 htk hdr
    unfold namedV at HI2 ⊢
    go_enter Tryd.func46, Tryd.ntmps46
    go_wp2_with fail
    refine HI2.out.mono ?_
    rintro e w1 ⟨rfl, hb⟩
    have HB1 := Lib.hid (show Below B w w1 from hb.mono hB)
    have HG1 := Lib.hid (HG.out.later hb)
    have HO1 := Lib.hid (own_keep2f HO.out hb)
    clear hb
    go_wp2_with fail
    go_loopw [5, 6] (fun v5 v6 wr => ∃ i j : Nat, i < j ∧ j ≤ l.length ∧ v5 = .int .i64 i ∧ v6 = .int .i64 j ∧ Hid (Half wr B gr cap name l i j) ∧ Hid (Below B w wr) ∧ Hid (HasN wr g name)) (fun _ v6 _ => l.length - (RowKit.intOf v6).toNat)
    case atStart => exact ⟨i0, i0 + 1, by omega, hidx, rfl, by go_num, HH0.out _ HO1.out, HB1, HG1⟩
    case round =>
      obtain ⟨i, j, hij, hj, rfl, rfl, HR, HB, HN⟩ := hrel
      rename World => W
      by_cases hlt : j < l.length
      · obtain ⟨K, R, hK, hKi, hRl, hoW⟩ := HR.out
        obtain ⟨z, R', rfl⟩ : ∃ z R', R = z :: R' := by
          cases R with
          | nil => simp at hRl; omega
          | cons z R' => exact ⟨z, R', rfl⟩
        have hdr : l.drop j = l.getD j ([], []) :: l.drop (j + 1) := by rw [List.drop_eq_getElem_cons hlt]; simp [List.getD, hlt]
        have htk : l.take (j + 1) = l.take j ++ [l.getD j ([], [])] := by
          rw [List.take_succ_eq_append_getElem hlt]; simp [List.getD, hlt]
        have hm := HZ.out (l.getD j ([], [])) (by simp [List.getD, hlt])
        rw [hdr] at hoW
        generalize l.getD j ([], []) = f at *
        generalize hD : l.drop (j + 1) = D at *
        obtain ⟨n, x⟩ := f
        simp only at hm
        have hat := fcells_mid (K ++ z :: R') (n, x) D
        have hKR : (K ++ z :: R').length = j := by rw [List.length_append, hRl]; omega
        rw [hKR] at hat
        have hc0 := hoW.cellAt (j * 2) (by omega)
        have hc1 := hoW.cellAt (j * 2 + 1) (by omega)
        rw [hat.1] at hc0
        rw [hat.2] at hc1
        have HC := fun W : World => fun h : HasN W g name => named1_any g name n x W h hm.1 hn
        have HF0 := Lib.hid (Two.new W 24 (.string (mkS n)) (.string (mkS x)))
        have hb0 : Below W.heap.size W (W.alloc (Obj.cells #[.string (mkS n), .string (mkS x)] 24)) := (Below.refl _ _).alloc (Nat.le_refl _) _
        have HO2 := Lib.hid (own_keep2f hoW hb0)
        have HN2 := Lib.hid (HN.out.later hb0)
        have hBW : B ≤ W.heap.size := Nat.le_trans hB HB.out.size
        have HB2 := Lib.hid (HB.out.trans (hb0.mono hBW))
        have hq0 := HF0.out.c0
        have hq1 := HF0.out.c1
        have g0 : (0 : Int) ≤ (j : Int) := by omega
        have g1 : (j : Int) < (l.length : Int) := by omega
        have g2 : (0 : Int) ≤ (i : Int) := by omega
        have g3 : (i : Int) < (l.length : Int) := by omega
        have hs0 : B ≤ (W.alloc (Obj.cells #[.string (mkS n), .string (mkS x)] 24)).heap.size := by simp; omega
        have HTK := Lib.hid htk
        have HKK := Lib.hid hK
        have HKi := Lib.hid hKi
        have HRl := Lib.hid hRl
        have HD := Lib.hid hD
        clear hb0 hat hKR hoW htk hdr hK hRl hD
        cases hk : isN name (n, x)
        · rw [hk] at HC
          have hK2 : delF name (l.take (j + 1)) = K ++ [(n, x)] := by rw [HTK.out, delF_snoc, hk, ← HKK.out]; rfl
          have HK2 := Lib.hid hK2
          have HC2 := Lib.hid HC
          clear HC hk hK2
          go_wp2_with fail
          generalize W.alloc (Obj.cells #[.string (mkS n), .string (mkS x)] 24) = W4 at *
          generalize W.heap.size = gw at *
          refine (HC2.out _ HN2.out).mono ?_
          rintro e w5 ⟨rfl, hb⟩
          have ho5 := own_keep2f HO2.out hb
          have HB5 := Lib.hid (HB2.out.trans (hb.mono hs0))
          have HN5 := Lib.hid (HN2.out.later hb)
          have hF5 := HF0.out.later hb
          have q0 := hF5.c0
          have q1 := hF5.c1
          have k0 := ho5.cellAt (i * 2) (by omega)
          have k1 := ho5.cellAt (i * 2 + 1) (by omega)
          rw [show K ++ z :: R' ++ (n, x) :: D = K ++ z :: (R' ++ (n, x) :: D) by simp] at k0 k1 ho5
          have hmid := fcells_mid K z (R' ++ (n, x) :: D)
          rw [HKi.out] at hmid
          rw [hmid.1] at k0
          rw [hmid.2] at k1
          have f0 := ho5.frozenAt (i * 2)
          have f1 := ho5.frozenAt (i * 2 + 1)
          have HO5 := Lib.hid ho5
          have k2 : (w5.setCell ⟨gr, i * 2, none⟩ (.string (mkS n))).cell? ⟨gr, i * 2 + 1, none⟩ = some (.string (mkS z.2)) := by
            rw [World.cell?_setCell_other (w := w5) (a := ⟨gr, i * 2, none⟩) (b := ⟨gr, i * 2 + 1, none⟩) (h := by intro e; injection e with _ e2; omega)]; exact k1
          clear hb ho5 hmid hF5
          go_wp2_with fail
          have hst := own_put2 (a := K) HO5.out n x
          rw [HKi.out] at hst
          refine ⟨⟨i + 1, j + 1, by omega, hlt, by go_num, by go_num, ?_, ?_, ?_⟩, by simp [RowKit.intOf]; omega⟩
          · refine ⟨K ++ [(n, x)], R' ++ [(n, x)], HK2.out.symm, by rw [List.length_append, HKi.out]; rfl, ?_, ?_⟩
            · have := HRl.out
              simp at this ⊢; omega
            · rw [HD.out]
              simpa using hst
          · exact (HB5.out.setCell (p := ⟨gr, i * 2, none⟩) hgr _).setCell (p := ⟨gr, i * 2 + 1, none⟩) hgr _
          · show World.cell? _ _ = _
            rw [World.cell?_setCell_other (h := by intro e; injection e with e1 _; exact hgne e1), World.cell?_setCell_other (h := by intro e; injection e with e1 _; exact hgne e1)]
            exact HN5.out
        · rw [hk] at HC
          have hK2 : delF name (l.take (j + 1)) = K := by rw [HTK.out, delF_snoc, hk, ← HKK.out]; simp
          have HK2 := Lib.hid hK2
          have HC2 := Lib.hid HC
          clear HC hk hK2
          go_wp2_with fail
          generalize W.alloc (Obj.cells #[.string (mkS n), .string (mkS x)] 24) = W4 at *
          generalize W.heap.size = gw at *
          refine (HC2.out _ HN2.out).mono ?_
          rintro e w5 ⟨rfl, hb⟩
          have HO5 := Lib.hid (own_keep2f HO2.out hb)
          have HB5 := Lib.hid (HB2.out.trans (hb.mono hs0))
          have HN5 := Lib.hid (HN2.out.later hb)
          clear hb
          go_wp2_with fail
          refine ⟨⟨i, j + 1, by omega, hlt, rfl, by go_num, ?_, HB5, HN5⟩, by simp [RowKit.intOf]; omega⟩
          refine ⟨K, z :: R' ++ [(n, x)], HK2.out.symm, HKi.out, ?_, ?_⟩
          · have := HRl.out
            simp at this ⊢; omega
          · rw [HD.out]
            have := HO5.out
            simpa using this
      · obtain rfl : j = l.length := by omega
        obtain ⟨K, R, hK, hKi, hRl, hoW⟩ := HR.out
        rw [List.take_length] at hK
        have hcl : ∀ ty, (Builtin.clear_ #[26] ty #[.slice (some ⟨gr, i * 2, none⟩) (l.length - i) (cap - i)]).run Tryd.prog W = .ok (.tuple #[]) (W.setCells gr (i * 2) (zeros2 (l.length - i))) := fun ty =>
          run_clear2 W ty gr (i * 2) (l.length - i) (cap - i) (by omega) (fun t ht => by
            rw [hoW.cellAt (i * 2 + t) (by omega)]
            have : i * 2 + t < (fcells (K ++ R ++ l.drop l.length)).length := by rw [fcells_len]; simp; omega
            rw [List.getElem?_eq_getElem this]; rfl) (fun t _ => hoW.frozenAt _)
        have HOW := Lib.hid hoW
        have HK := Lib.hid hK
        have HKi := Lib.hid hKi
        have g2 : (0 : Int) ≤ (i : Int) := by omega
        have g3 : (i : Int) ≤ (l.length : Int) := by omega
        have g4 : (l.length : Int) ≤ (cap : Int) := by omega
        clear hoW hK hKi hRl
        go_wp2_with fail
        go_ret
        have hw := HOW.out
        refine ⟨_, rfl, ?_, below_setC hgr _ _ _ HB.out⟩
        rw [← HK.out]
        refine ⟨some ⟨gr, 0, none⟩, cap, by rw [HKi.out]; rfl, by rw [HKi.out]; omega, fun t f ht => ?_⟩
        have htl : t < i := by
          have := (List.getElem?_eq_some_iff.1 ht).1
          rw [HKi.out] at this; exact this
        have hget := fcells_get (K ++ R ++ l.drop l.length) t f (by rw [List.append_assoc, List.getElem?_append_left (by rw [HKi.out]; exact htl)]; exact ht)
        refine ⟨gr, 0, rfl, ?_, ?_⟩
        · rw [World.cell?_setCells_out _ _ _ _ _ (fun _ _ => Or.inl (by simp; omega)), Nat.zero_add, hw.cellAt (t * 2) (by omega)]
          exact hget.1
        · rw [World.cell?_setCells_out _ _ _ _ _ (fun _ _ => Or.inl (by simp; omega)), Nat.zero_add, hw.cellAt (t * 2 + 1) (by omega)]
          exact hget.2
  · have hall := find_none name l hidx
    have hix : idxF name l = -1 := by unfold idxF; rw [if_neg hidx]
    rw [hix] at HIx
    have HI2 := Lib.hid HIx
    have HA := Lib.hid (delF_all name l hall)
    obtain ⟨a, cap, rfl⟩ : ∃ a cap, v = .slice a l.length cap := by obtain ⟨a, c, h, -⟩ := isFlds_own ho; exact ⟨a, c, h⟩
    clear hall hix HIx ho hg hz hidx
    unfold namedV at HI2 ⊢
    go_enter Tryd.func46, Tryd.ntmps46
    go_wp2_with fail
    refine HI2.out.mono ?_
    rintro e w1 ⟨rfl, hb⟩
    have HB1 := Lib.hid (show Below B w w1 from hb.mono hB)
    have HF1 := Lib.hid (isFlds_below (isFlds_own HO.out) hb)
    clear hb
    go_wp2_with fail
    go_ret
    exact ⟨_, rfl, by rw [HA.out]; exact HF1.out, HB1.out⟩
end Tk
end Go.Proofs.YtcddkeekabafgaaDoor
namespace Go.Proofs.YtcddkeekabafgaaDoor
open Go.RowKit
namespace Tk

theorem own_base {w : World} {B B2 n : Nat} {v : Value} {xs : List Value} {e : TypeId} (h : w.ownsRow B e 2 v n xs) (hb : B2 ≤ B) : w.ownsRow B2 e 2 v n xs := by
  refine ⟨h.1, ?_⟩
  rcases h.2 with h2 | ⟨g, cap, cur, hv, hge, h2⟩
  · exact .inl h2
  · exact .inr ⟨g, cap, cur, hv, Nat.le_trans hb hge, h2⟩
theorem ownBlock_lt {w : World} {B n : Nat} {v : Value} {xs : List Value} {e : TypeId} (h : w.ownsRow B e 2 v n xs) : v.ownBlock ≠ some w.heap.size := by
  intro hh
  have := (h.lt _ hh).2
  omega

set_option maxHeartbeats 4000000 in
set_option maxRecDepth 100000 in
theorem fdel_any (v : Value) (l : List (Bs × Bs)) (name : Bs) (w : World) (hs : IsFlds w v l) (hnl : ∀ n c, v = .slice none n c → c = 0)
    (hz : ∀ f ∈ l, f.1.length ≤ 1099511627776 ∧ f.2.length ≤ 1099511627776) (hn : name.length ≤ 1099511627776) (hl : l.length ≤ 1048576) :
    Calls Tryd.prog 60 #[v, .string (mkS name)] w (OwnPost (delF name l) w) := by
  have HZ := Lib.hid hz
  have HZ2 : Hid (∀ f ∈ delF name l, f.1.length ≤ 1099511627776 ∧ f.2.length ≤ 1099511627776) := fun f hf => hz f (List.mem_filter.1 hf).1
  have hl2 : (delF name l).length ≤ 1048576 := Nat.le_trans (delF_len name l) hl
  have HCl := Lib.hid (sclone_any v l w hs hnl hl)
  have HN := Lib.hid (fun W : World => named_any name W)
  unfold OwnPost at HCl ⊢
  obtain ⟨a, cap, rfl⟩ : ∃ a cap, v = .slice a l.length cap := by obtain ⟨a, c, h, -⟩ := hs; exact ⟨a, c, h⟩
  clear hs hnl hz
  go_enter Tryd.func60, Tryd.ntmps60
  go_wp2_with fail
  refine HCl.out.mono ?_
  rintro e w1 ⟨v1, rfl, ho, hb⟩
  have HO := Lib.hid ho
  have HB := Lib.hid hb
  clear ho hb
  go_wp2_with fail
  refine (HN.out _).mono ?_
  rintro e w2 ⟨rfl, hg, hb⟩
  have HD := Lib.hid (delf_any v1 l name w1.heap.size w.heap.size w2 (own_keep2f HO.out hb) (Nat.le_trans HB.out.size hb.size) hg (ownBlock_lt HO.out) HZ.out hn hl)
  have HB2 := Lib.hid (HB.out.trans (hb.mono HB.out.size))
  clear hg hb
  go_wp2_with fail
  refine HD.out.mono ?_
  rintro e w3 ⟨v3, rfl, hf, hb⟩
  have HB3 := Lib.hid (HB2.out.trans hb)
  have HC := Lib.hid (copied_any v3 (delF name l) w3 hf HZ2.out hl2)
  unfold OwnPost at HC
  clear hf hb
  go_wp2_with fail
  refine HC.out.mono ?_
  rintro e w4 ⟨v4, rfl, ho, hb⟩
  have HO4 := Lib.hid (own_base ho HB3.out.size)
  have HB4 := Lib.hid (HB3.out.trans (hb.mono HB3.out.size))
  clear ho hb
  go_wp2_with fail
  go_ret
  exact ⟨v4, rfl, HO4.out, HB4.out⟩
end Tk
end Go.Proofs.YtcddkeekabafgaaDoor
namespace Go.Proofs.YtcddkeekabafgaaDoor
open Go.RowKit
namespace Tk

theorem noStand : Tryd.prog.stoodInHeld 24 = false := by kernel_rfl
theorem field_eql (W : World) (a b c d : ByteArray) : (binOp .eql 24 (.agg #[.string a, .string b]) (.agg #[.string c, .string d])).run Tryd.prog W = .ok (.bool (a.toList == c.toList && b.toList == d.toList)) W := by
  rw [run_eql_struct, run_equalIn_agg _ _ _ _ _ (by simp [Program.fieldsOf, Tryd.underlying24]) noStand]
  simp [Program.fieldsOf, Tryd.underlying24, Op.eqFields, go_sem]
  by_cases h1 : a.toList = c.toList <;> by_cases h2 : b.toList = d.toList <;> simp [h1, h2]

/-- may the fields be gone through: so many bytes together -/
def lfGo (b : Nat) : Nat → List (Bs × Bs) → Bool
  | _, [] => true
  | n, f :: t => if b < n + f.1.length + f.2.length then false else lfGo b (n + f.1.length + f.2.length) t
def lightF (l : List (Bs × Bs)) : Bool := decide (l.length ≤ 30) && lfGo 600 0 l
theorem lfGo_sum (b : Nat) : ∀ (l : List (Bs × Bs)) (n : Nat), n ≤ b → lfGo b n l = true → n + sumF l ≤ b + 4 * l.length
  | [], n, hn, _ => by simp [sumF]; exact hn
  | f :: t, n, hn, h => by
    unfold lfGo at h
    split at h
    · cases h
    · have := lfGo_sum b t (n + f.1.length + f.2.length) (by omega) h
      unfold sumF; simp only [List.length_cons]; omega
theorem lightF_parts (l : List (Bs × Bs)) (h : lightF l = true) : l.length ≤ 30 ∧ sumF l ≤ 720 := by
  unfold lightF at h
  rw [Bool.and_eq_true, decide_eq_true_eq] at h
  have := lfGo_sum 600 l 0 (by omega) h.2
  exact ⟨h.1, by omega⟩

set_option maxHeartbeats 2000000 in
set_option maxRecDepth 100000 in
theorem lightFields_any (v : Value) (l : List (Bs × Bs)) (w : World) (hs : IsFlds w v l) (hz : ∀ f ∈ l, f.1.length ≤ 140737488351232 ∧ f.2.length ≤ 140737488351232) (hl : l.length ≤ 140737488351232) :
    Calls Tryd.prog 45 #[v, .int .i64 30, .int .i64 600] w fun e w' => e = .returned (.bool (lightF l)) ∧ ∃ n, w' = w.drewN n := by
  obtain ⟨a, c, rfl, hcap, hc⟩ := hs
  have HC := Lib.hid hc
  have HZ := Lib.hid hz
  clear hc hz
  by_cases h20 : 30 < l.length
  · have fin : lightF l = false := by unfold lightF; rw [decide_eq_false (by omega)]; rfl
    have HF := Lib.hid fin
    have h' : (30 : Int) < (l.length : Int) := by omega
    clear fin
    go_enter Tryd.func45, Tryd.ntmps45
    go_wp2_with fail
    go_ret
    exact ⟨by rw [HF.out]; rfl, 0, rfl⟩
  · have fin : lightF l = lfGo 600 0 l := by unfold lightF; rw [decide_eq_true (by omega)]; rfl
    have HF := Lib.hid fin
    have h' : ¬ (30 : Int) < (l.length : Int) := by omega
    clear fin
    go_enter Tryd.func45, Tryd.ntmps45
    go_wp2_with fail
    go_loopw [7, 8] (fun vn vi wr => ∃ (i n m : Nat), i ≤ l.length ∧ n ≤ 600 ∧ vi = .int .i64 i ∧ vn = .int .i64 n ∧ wr = w.drewN m ∧ Hid (lightF l = lfGo 600 n (l.drop i))) (fun _ vi _ => l.length - (RowKit.intOf vi).toNat)
    case atStart => exact ⟨0, 0, 0, by omega, by omega, rfl, rfl, rfl, HF.out⟩
    case round =>
      obtain ⟨i, n, m, hi, hn, rfl, rfl, rfl, hd⟩ := hrel
      by_cases hlt : i < l.length
      · obtain ⟨b, o, rfl, hc0, hc1⟩ := HC.out i (l.getD i ([], [])) (by simp [List.getD, hlt])
        obtain ⟨z0, z1⟩ := HZ.out (l.getD i ([], [])) (by simp [List.getD, hlt])
        have hdr : l.drop i = l.getD i ([], []) :: l.drop (i + 1) := by rw [List.drop_eq_getElem_cons hlt]; simp [List.getD, hlt]
        have HD := Lib.hid hdr
        clear hdr
        generalize l.getD i ([], []) = f at *
        obtain ⟨x, y⟩ := f
        simp only at z0 z1 hc0 hc1
        have s0 := size_mkS x
        have s1 := size_mkS y
        have HS0 := Lib.hid s0
        have HS1 := Lib.hid s1
        have y0 : (mkS x).size ≤ 140737488351232 := by omega
        have y1 : (mkS y).size ≤ 140737488351232 := by omega
        clear s0 s1 z0 z1
        have hb0 : (0 : Int) ≤ (i : Int) := by omega
        have hb1 : (i : Int) < (l.length : Int) := by omega
        by_cases hb : 600 < n + (mkS x).size + (mkS y).size
        · have fin : lightF l = false := by
            rw [hd.out, HD.out, lfGo, if_pos (by rw [← HS0.out, ← HS1.out]; exact hb)]
          have HF2 := Lib.hid fin
          have hb' : (600 : Int) < (n : Int) + ((mkS x).size : Int) + ((mkS y).size : Int) := by omega
          clear fin HF HD hd
          generalize mkS x = s at *
          generalize mkS y = t at *
          have w1 : IntKind.i64.wrap ((n : Int) + (s.size : Int)) = (n : Int) + (s.size : Int) := IntWalk.i64_in _ (by omega)
          have w2 : IntKind.i64.wrap ((n : Int) + (s.size : Int) + (t.size : Int)) = (n : Int) + (s.size : Int) + (t.size : Int) := IntWalk.i64_in _ (by omega)
          go_wp2_with fail
          go_quiet (fail)
          clear w1 w2
          go_wp2_with fail
          go_ret
          exact ⟨by rw [HF2.out]; rfl, _, rfl⟩
        · have nx : lightF l = lfGo 600 (n + (mkS x).size + (mkS y).size) (l.drop (i + 1)) := by
            rw [hd.out, HD.out, lfGo, if_neg (by rw [← HS0.out, ← HS1.out]; exact hb), HS0.out, HS1.out]
          have HN := Lib.hid nx
          have hb' : ¬ (600 : Int) < (n : Int) + ((mkS x).size : Int) + ((mkS y).size : Int) := by omega
          clear nx HF HD hd
          generalize mkS x = s at *
          generalize mkS y = t at *
          have w1 : IntKind.i64.wrap ((n : Int) + (s.size : Int)) = (n : Int) + (s.size : Int) := IntWalk.i64_in _ (by omega)
          have w2 : IntKind.i64.wrap ((n : Int) + (s.size : Int) + (t.size : Int)) = (n : Int) + (s.size : Int) + (t.size : Int) := IntWalk.i64_in _ (by omega)
          go_wp2_with fail
          go_quiet (fail)
          clear w1 w2
          go_wp2_with fail
          exact ⟨⟨i + 1, n + s.size + t.size, _, by omega, by omega, by go_num, by go_num, rfl, HN⟩, by simp [RowKit.intOf]; omega⟩
      · have fin : lightF l = true := by rw [hd.out, List.drop_eq_nil_of_le (by omega)]; rfl
        have HF2 := Lib.hid fin
        clear fin
        go_wp2_with fail
        go_ret
        exact ⟨by rw [HF2.out]; rfl, _, rfl⟩

theorem ex_line1 : lnN [65, 58, 32, 32, 98, 32] = [65] ∧ lnV [65, 58, 32, 32, 98, 32] = [98] ∧ lnE [65, 58, 32, 32, 98, 32] = 0 := by decide +kernel
theorem ex_line2 : lnN [65, 32, 58, 32, 98] = [] ∧ lnV [65, 32, 58, 32, 98] = [] ∧ lnE [65, 32, 58, 32, 98] = 4 := by decide +kernel
def Yes2 (w : World) (r : Ending) (w' : World) : Prop := r = .returned (.bool true) ∧ Below w.heap.size w w'

end Tk
end Go.Proofs.YtcddkeekabafgaaDoor
namespace Go.Proofs.YtcddkeekabafgaaDoor
open Go.RowKit
namespace Tk

def setF (name x : Bs) (l : List (Bs × Bs)) : List (Bs × Bs) :=
  if l.findIdx (isN name) < l.length then l.take (l.findIdx (isN name)) ++ ((l.getD (l.findIdx (isN name)) ([], [])).1, x) :: delF name (l.drop (l.findIdx (isN name) + 1))
  else l ++ [(name, x)]

theorem isFlds_one2 {w : World} {b o c : Nat} {n x : Bs} (hc : 1 ≤ c) (h0 : w.cell? ⟨b, o, none⟩ = some (.string (mkS n))) (h1 : w.cell? ⟨b, o + 1, none⟩ = some (.string (mkS x))) : IsFlds w (.slice (some ⟨b, o, none⟩) 1 c) [(n, x)] := by
  refine ⟨_, c, rfl, hc, fun j f hj => ⟨b, o, rfl, ?_⟩⟩
  match j, hj with
  | 0, hj => simp at hj; subst hj; exact ⟨by simpa using h0, by simpa using h1⟩
theorem isFlds_lit (w : World) (n x : Bs) : IsFlds (w.alloc (Obj.cells #[.string (mkS n), .string (mkS x)] 24)) (.slice (some ⟨w.heap.size, 0, none⟩) 1 1) [(n, x)] := by
  have hN := Two.new w 24 (.string (mkS n)) (.string (mkS x))
  exact isFlds_one2 (b := w.heap.size) (o := 0) (c := 1) (n := n) (x := x) (Nat.le_refl _) hN.c0 hN.c1

set_option maxHeartbeats 4000000 in
set_option maxRecDepth 100000 in
theorem fset_no (v : Value) (l : List (Bs × Bs)) (name x : Bs) (w : World) (hs : IsFlds w v l) (hno : ¬ l.findIdx (isN name) < l.length)
    (hz : ∀ f ∈ l, f.1.length ≤ 1099511627776 ∧ f.2.length ≤ 1099511627776) (hn : name.length ≤ 1099511627776) (hx : x.length ≤ 1099511627776) (hl : l.length ≤ 1048576) :
    Calls Tryd.prog 39 #[v, .string (mkS name), .string (mkS x)] w (OwnPost (setF name x l) w) := by
  have HS := Lib.hid hs
  have HN := Lib.hid (named_any name w)
  have HI := Lib.hid (fun (W : World) (hb : Below w.heap.size w W) (g : Nat) (hg : HasN W g name) => index_any v g name l W (isFlds_below hs hb) hg hz hn hl)
  have HCp := Lib.hid (fun (W : World) (hb : Below w.heap.size w W) => copied_any v l W (isFlds_below hs hb) hz hl)
  have HOw := Lib.hid (fun W : World => fown_any name x W hn hx)
  have hix : idxF name l = -1 := by unfold idxF; rw [if_neg hno]
  have HSet : Hid (setF name x l = l ++ [(name, x)]) := by show setF name x l = _; unfold setF; rw [if_neg hno]
  rw [hix] at HI
  unfold OwnPost at HCp ⊢
  obtain ⟨a, cap, rfl⟩ : ∃ a cap, v = .slice a l.length cap := by obtain ⟨a, c, h, -⟩ := hs; exact ⟨a, c, h⟩
  clear hs hz hix hno
  go_enter Tryd.func39, Tryd.ntmps39
  go_wp2_with fail
  refine HN.out.mono ?_
  rintro e w1 ⟨rfl, hg, hb⟩
  have HI1 := Lib.hid (HI.out _ hb _ hg)
  have HB1 := Lib.hid hb
  clear hg hb
  go_wp2_with fail
  refine HI1.out.mono ?_
  rintro e w2 ⟨rfl, hb⟩
  have HB2 := Lib.hid (HB1.out.trans (hb.mono HB1.out.size))
  clear hb
  go_wp2_with fail
  refine (HCp.out _ HB2.out).mono ?_
  rintro e w3 ⟨v3, rfl, ho, hb⟩
  have HO3 := Lib.hid (own_base ho HB2.out.size)
  have HB3 := Lib.hid (HB2.out.trans (hb.mono HB2.out.size))
  clear ho hb
  go_wp2_with fail
  refine (HOw.out _).mono ?_
  rintro e w4 ⟨rfl, hb⟩
  have ho4 := own_keep2f HO3.out hb
  have HB4 := HB3.out.trans (hb.mono HB3.out.size)
  have hbal : Below w4.heap.size w4 (w4.alloc (Obj.cells #[.string (mkS name), .string (mkS x)] 24)) := (Below.refl _ _).alloc (Nat.le_refl _) _
  have HO5 := Lib.hid (own_keep2f ho4 hbal)
  have HF5 := Lib.hid (isFlds_lit w4 name x)
  have HB5 := Lib.hid (HB4.trans (hbal.mono HB4.size))
  have hs5 : w.heap.size ≤ (w4.alloc (Obj.cells #[.string (mkS name), .string (mkS x)] 24)).heap.size := HB5.out.size
  clear hb ho4 hbal HB4
  go_wp2_with (at_builtin; refine joinF_guarded (by rfl) _ _ rfl w.heap.size _ _ l [(name, x)] rfl rfl HO5.out HF5.out (fun _ _ h => by injection h with h1; cases h1) hs5 (by omega) (by simp) ?_)
  intro v6 w6 ho6 hg6
  have HB6 := Lib.hid (HB5.out.trans (below_of_grownF hg6 HO5.out hs5))
  have HO6 := Lib.hid ho6
  clear ho6 hg6
  go_wp2_with fail
  go_ret
  exact ⟨v6, rfl, by rw [HSet.out, List.length_append]; exact HO6.out, HB6.out⟩

/-- a part of a list of fields in memory -/
theorem isFlds_take {w : World} {b o c n : Nat} {l : List (Bs × Bs)} (h : IsFlds w (.slice (some ⟨b, o, none⟩) n c) l) (i : Nat) (hi : i ≤ l.length) : IsFlds w (.slice (some ⟨b, o, none⟩) i c) (l.take i) := by
  obtain ⟨a', c', e', hcap, hc⟩ := h
  injection e' with e1 e3 e2
  subst e1 e2 e3
  have hl : (l.take i).length = i := by simp; omega
  refine ⟨some ⟨b, o, none⟩, c, by rw [hl], by rw [hl]; omega, fun j f hj => ?_⟩
  have hji : j < i := by
    have := (List.getElem?_eq_some_iff.1 hj).1
    rw [hl] at this; exact this
  rw [List.getElem?_take, if_pos hji] at hj
  exact hc j f hj
theorem isFlds_drop {w : World} {b o c n : Nat} {l : List (Bs × Bs)} (h : IsFlds w (.slice (some ⟨b, o, none⟩) n c) l) (i : Nat) (hi : i ≤ l.length) : IsFlds w (.slice (some ⟨b, o + i * 2, none⟩) (l.length - i) (c - i)) (l.drop i) := by
  obtain ⟨a', c', e', hcap, hc⟩ := h
  injection e' with e1 e3 e2
  subst e1 e2 e3
  have hl : (l.drop i).length = l.length - i := by simp
  refine ⟨some ⟨b, o + i * 2, none⟩, c - i, by rw [hl], by rw [hl]; omega, fun j f hj => ?_⟩
  rw [List.getElem?_drop] at hj
  obtain ⟨b', o', e, h0, h1⟩ := hc (i + j) f hj
  injection e with e
  injection e with e1 e2
  subst e1 e2
  exact ⟨b, o + i * 2, rfl, by rw [← h0]; congr 2; omega, by rw [← h1]; congr 2; omega⟩

theorem step_joinF {ops : Array Oper} {w w0 : World} {o : Oper} {a : Act} {K : Act → World → Prop} {Q : Exit → Act → World → Prop} {E : Prop} (hgd : o.guard = none) (s x : Operand)
    (ho : o.op = .call { callee := .builtin .append, args := #[s, x], argTypes := #[26, 26] })
    (base : Nat) (v v2 : Value) (P R : List (Bs × Bs)) (hs : a.eval s = v) (hx : a.eval x = v2) (h1 : w.ownsRow base 24 2 v P.length (fcells P)) (h2 : IsFlds w v2 R) (hnl : ∀ n c, v2 = .slice none n c → c = 0)
    (hB : base ≤ w.heap.size) (hP : P.length ≤ 1048576) (hR : R.length ≤ 1048576) (p : Addr) (u : Value) (_hp : p.block < base) (hcell : ∀ W, Below base w0 W → W.cell? p = some u) (hb : Below base w0 w)
    (h : ∀ v' w', w'.ownsRow base 24 2 v' (P ++ R).length (fcells (P ++ R)) → Below base w0 w' → w'.cell? p = some u → K (a.put o.dst v') w') :
    if Region.wanted o (yielded ops a.tmps) = true then Oper.wp Tryd.prog o a w K Q else E := by
  have hw : Region.wanted o (yielded ops a.tmps) = true := by simp [Region.wanted, hgd]
  rw [if_pos hw]
  refine joinF_run w o a K Q s x ho base v v2 P R hs hx h1 h2 hnl hB hP hR fun v' w' h3 h4 => ?_
  have hb2 := hb.trans (below_of_grownF h4 h1 hB)
  exact h v' w' h3 hb2 (hcell _ hb2)

set_option maxHeartbeats 8000000 in
set_option maxRecDepth 100000 in
theorem fset_yes (v : Value) (l : List (Bs × Bs)) (name x : Bs) (w : World) (hs : IsFlds w v l) (hno : l.findIdx (isN name) < l.length)
    (hz : ∀ f ∈ l, f.1.length ≤ 1099511627776 ∧ f.2.length ≤ 1099511627776) (hn : name.length ≤ 1099511627776) (hx : x.length ≤ 1099511627776) (hl : l.length ≤ 1048576) :
    Calls Tryd.prog 39 #[v, .string (mkS name), .string (mkS x)] w (OwnPost (setF name x l) w) := by
  have HN := Lib.hid (named_any name w)
  have HI := Lib.hid (fun (W : World) (hb : Below w.heap.size w W) (g : Nat) (hg : HasN W g name) => index_any v g name l W (isFlds_below hs hb) hg hz hn hl)
  have hix : idxF name l = (l.findIdx (isN name) : Int) := by unfold idxF; rw [if_pos hno]
  rw [hix] at HI
  have HSet : Hid (setF name x l = l.take (l.findIdx (isN name)) ++ ((l.getD (l.findIdx (isN name)) ([], [])).1, x) :: delF name (l.drop (l.findIdx (isN name) + 1))) := by show setF name x l = _; unfold setF; rw [if_pos hno]
  generalize l.findIdx (isN name) = i at *
  have hs2 := hs
  obtain ⟨a, cap, rfl, hcap, hc⟩ := hs2
  obtain ⟨b, o, rfl, hc0, hc1⟩ := hc i (l.getD i ([], [])) (by simp [List.getD, hno])
  have hm := hz (l.getD i ([], [])) (by simp [List.getD, hno])
  have hlt : b < w.heap.size := cell_lt (p := ⟨b, o + i * 2, none⟩) hc0
  generalize l.getD i ([], []) = f at *
  obtain ⟨n, y⟩ := f
  simp only at hm hc0 hc1
  have HCp := Lib.hid (fun (W : World) (hb : Below w.heap.size w W) => copied_any _ (l.take i) W (isFlds_take (isFlds_below hs hb) i (by omega)) (fun f hf => hz f (List.mem_of_mem_take hf)) (by rw [List.length_take]; omega))
  have HDl := Lib.hid (fun (W : World) (A : Option Addr) (c' : Nat) (hf : IsFlds W (.slice A (l.length - (i + 1)) c') (l.drop (i + 1))) (hA : A ≠ none) => fdel_any _ (l.drop (i + 1)) name W hf (fun _ _ h => by injection h with h1; exact absurd h1 hA) (fun f hf => hz f (List.mem_of_mem_drop hf)) hn (by rw [List.length_drop]; omega))
  have HSd := Lib.hid (fun (W : World) (hb : Below w.heap.size w W) => isFlds_drop (isFlds_below hs hb) (i + 1) (by omega))
  have HOw := Lib.hid (fun W : World => fown_any n x W hm.1 hx)
  unfold OwnPost at HCp HDl ⊢
  have HCell : Hid (∀ W, Below w.heap.size w W → W.cell? ⟨b, o + i * 2, none⟩ = some (.string (mkS n))) := fun W h => (h.cell (p := ⟨b, o + i * 2, none⟩) hlt).trans hc0
  have CK : Hid (∀ W, Below w.heap.size w W → Calls Tryd.prog 58 #[.slice (some ⟨b, o, none⟩) i cap] W fun e w' => ∃ v', e = .returned v' ∧ Below w.heap.size w w' ∧ w'.cell? ⟨b, o + i * 2, none⟩ = some (.string (mkS n)) ∧ w'.ownsRow w.heap.size 24 2 v' (l.take i).length (fcells (l.take i))) := by
    intro W hb
    refine (HCp.out W hb).mono ?_
    rintro e w' ⟨v', rfl, ho, hb'⟩
    have hB := hb.trans (hb'.mono hb.size)
    exact ⟨v', rfl, hB, HCell.out _ hB, own_base ho hb.size⟩
  have OK2 : Hid (∀ W v', Below w.heap.size w W → W.ownsRow w.heap.size 24 2 v' (l.take i).length (fcells (l.take i)) → Calls Tryd.prog 59 #[.string (mkS n), .string (mkS x)] W fun e w' => e = .returned (.agg #[.string (mkS n), .string (mkS x)]) ∧ w'.cell? ⟨b, o + i * 2, none⟩ = some (.string (mkS n)) ∧
      Below w.heap.size w (w'.alloc (Obj.cells #[.string (mkS n), .string (mkS x)] 24)) ∧ (w'.alloc (Obj.cells #[.string (mkS n), .string (mkS x)] 24)).ownsRow w.heap.size 24 2 v' (l.take i).length (fcells (l.take i)) ∧
      IsFlds (w'.alloc (Obj.cells #[.string (mkS n), .string (mkS x)] 24)) (.slice (some ⟨w'.heap.size, 0, none⟩) 1 1) [(n, x)] ∧ w.heap.size ≤ (w'.alloc (Obj.cells #[.string (mkS n), .string (mkS x)] 24)).heap.size) := by
    intro W v' hb ho
    refine (HOw.out W).mono ?_
    rintro e w' ⟨rfl, hb'⟩
    have hB := hb.trans (hb'.mono hb.size)
    have hbal : Below w'.heap.size w' (w'.alloc (Obj.cells #[.string (mkS n), .string (mkS x)] 24)) := (Below.refl _ _).alloc (Nat.le_refl _) _
    have hB2 := hB.trans (hbal.mono hB.size)
    exact ⟨rfl, HCell.out _ hB, hB2, own_keep2f (own_keep2f ho hb') hbal, isFlds_lit w' n x, hB2.size⟩
  have hli : (l.take i).length ≤ 1048576 := by rw [List.length_take]; omega
  have g0 : (0 : Int) ≤ (i : Int) := by omega
  have g1 : (i : Int) < (l.length : Int) := by omega
  have g2 : (i : Int) ≤ (cap : Int) := by omega
  have g3 : (l.length : Int) ≤ (cap : Int) := by omega
  have g4 : ¬ (i : Int) < 0 := by omega
  clear hs hz hix hc hc0 hc1
  go_enter Tryd.func39, Tryd.ntmps39
  go_wp2_with fail
  refine HN.out.mono ?_
  rintro e w1 ⟨rfl, hg, hb⟩
  have HI1 := Lib.hid (HI.out _ hb _ hg)
  have HB1 := Lib.hid hb
  clear hg hb
  go_wp2_with fail
  refine HI1.out.mono ?_
  rintro e w2 ⟨rfl, hb⟩
  have hB2 := HB1.out.trans (hb.mono HB1.out.size)
  have hc2 := HCell.out w2 hB2
  clear hb
  go_wp2_with fail
  have hB2d : Below w.heap.size w w2.drew := hB2.drew
  have hc2d : w2.drew.cell? ⟨b, o + i * 2, none⟩ = some (.string (mkS n)) := hc2
  go_region_held3 (fun w' => w'.cell? ⟨b, o + i * 2, none⟩ = some (.string (mkS n))) (first | go_keep | exact (by assumption)) (first | (go_at_call 58; refine (CK.out _ (by assumption)).mono ?_; rintro e w' ⟨v', rfl, hb', hc', ho'⟩) | (go_at_call 59; refine (OK2.out _ _ (by assumption) (by assumption)).mono ?_; rintro e w' ⟨rfl, hc', hb', ho', hf', hs'⟩) | (refine step_joinF (by rfl) _ _ (by rfl) w.heap.size _ _ (l.take i) [(n, x)] (by rfl) (by rfl) (by assumption) (by assumption) (fun _ _ h => by injection h with h1; cases h1) (by assumption) hli (by simp) ⟨b, o + i * 2, none⟩ _ hlt HCell.out (by assumption) ?_; intro v6 w6 ho6 hb6 hc6))
  go_ways
  have HB6 := Lib.hid hb6
  have HO6 := Lib.hid ho6
  clear hB2 hc2 hB2d hc2d hc' hb' hs' hb6 ho6
  have hw1 : IntKind.i64.wrap ((i : Int) + 1) = (i : Int) + 1 := IntWalk.i64_in _ (by omega)
  have hw2 : (0 : Int) ≤ (i : Int) + 1 := by omega
  have hw3 : ((i : Int) + 1).toNat = i + 1 := by omega
  have hw4 : (i : Int) + 1 ≤ (l.length : Int) := by omega
  have hd7 : (delF name (l.drop (i + 1))).length ≤ 1048576 := by
    have := delF_len name (l.drop (i + 1))
    rw [List.length_drop] at this; omega
  have hp7 : (l.take i ++ [(n, x)]).length ≤ 1048576 := by
    rw [List.length_append, List.length_take]; simp; omega
  by_cases hce : cap - (i + 1) = 0
  all_goals
    have HF : Hid (IsFlds w6 (.slice (some (if cap - (i + 1) = 0 then ⟨b, o, none⟩ else ⟨b, o + (i + 1) * 2, none⟩)) (l.length - (i + 1)) (cap - (i + 1))) (l.drop (i + 1))) := by
      show IsFlds _ _ _
      first
        | (rw [if_neg hce]; exact HSd.out _ HB6.out)
        | (rw [if_pos hce, hce, show l.length - (i + 1) = 0 by omega, List.drop_eq_nil_of_le (by omega)]
           exact ⟨_, 0, rfl, Nat.le_refl _, fun j f hj => by simp at hj⟩)
    first | rw [if_neg hce] at HF | rw [if_pos hce, hce] at HF
    have HD7 := Lib.hid (HDl.out _ _ _ HF.out (by simp))
    clear HF
    go_wp2_with fail
    refine HD7.out.mono ?_
    rintro e w7 ⟨v7, rfl, ho7, hb7⟩
    have HO7 := Lib.hid (own_keep2f HO6.out hb7)
    have HF7 := Lib.hid (isFlds_own ho7)
    have HNC := Lib.hid (isFlds_nil_cap ho7)
    have HB7 := Lib.hid (HB6.out.trans (hb7.mono HB6.out.size))
    have hs7 := HB7.out.size
    clear ho7 hb7
    go_wp2_with (at_builtin; refine joinF_guarded (by rfl) _ _ rfl w.heap.size _ _ (l.take i ++ [(n, x)]) (delF name (l.drop (i + 1))) rfl rfl HO7.out HF7.out HNC.out hs7 hp7 hd7 ?_)
    intro v8 w8 ho8 hg8
    have HB8 := Lib.hid (HB7.out.trans (below_of_grownF hg8 HO7.out hs7))
    have HO8 := Lib.hid ho8
    clear ho8 hg8
    go_wp2_with fail
    go_ret
    refine ⟨v8, rfl, ?_, HB8.out⟩
    rw [HSet.out, show (l.take i ++ (n, x) :: delF name (l.drop (i + 1))).length = min i l.length + ((delF name (l.drop (i + 1))).length + 1) by simp]
    exact HO8.out

theorem fset_any (v : Value) (l : List (Bs × Bs)) (name x : Bs) (w : World) (hs : IsFlds w v l)
    (hz : ∀ f ∈ l, f.1.length ≤ 1099511627776 ∧ f.2.length ≤ 1099511627776) (hn : name.length ≤ 1099511627776) (hx : x.length ≤ 1099511627776) (hl : l.length ≤ 1048575) :
    Calls Tryd.prog 39 #[v, .string (mkS name), .string (mkS x)] w (OwnPost (setF name x l) w) := by
  by_cases h : l.findIdx (isN name) < l.length
  · exact fset_yes v l name x w hs h hz hn hx (by omega)
  · exact fset_no v l name x w hs h hz hn hx (by omega)
end Tk
end Go.Proofs.YtcddkeekabafgaaDoor
namespace Go.Proofs.YtcddkeekabafgaaDoor
open Go.RowKit
namespace Tk

set_option maxHeartbeats 4000000 in
set_option maxRecDepth 100000 in
theorem join_none (c : Nat) (a : Option Addr) (sep : ByteArray) (w : World) :
    Calls Tryd.prog 55 #[.slice a 0 c, .string sep] w fun e w' => e = .returned (.string ⟨#[]⟩) ∧ Below w.heap.size w w' := by
  go_enter Tryd.func55, Tryd.ntmps55
  go_wp2_with fail
  go_ret
  exact ⟨rfl, Below.refl _ _⟩

set_option maxHeartbeats 4000000 in
set_option maxRecDepth 100000 in
theorem join_one (g c : Nat) (s sep : ByteArray) (w : World) (h : w.cell? ⟨g, 0, none⟩ = some (.string s)) :
    Calls Tryd.prog 55 #[.slice (some ⟨g, 0, none⟩) 1 c, .string sep] w fun e w' => e = .returned (.string s) ∧ Below w.heap.size w w' := by
  go_enter Tryd.func55, Tryd.ntmps55
  go_wp2_with fail
  go_ret
  exact ⟨rfl, Below.refl _ _⟩

/-- what Get tells of at most one value -/
def getS : List Bs → Bs
  | [x] => x
  | _ => []

set_option maxHeartbeats 4000000 in
set_option maxRecDepth 100000 in
theorem fget_one (v : Value) (l : List (Bs × Bs)) (name : Bs) (w : World) (hs : IsFlds w v l) (hz : ∀ f ∈ l, f.1.length ≤ 1099511627776 ∧ f.2.length ≤ 1099511627776) (hn : name.length ≤ 1099511627776) (hl : l.length ≤ 1048576)
    (h1 : (allF l name).length ≤ 1) :
    Calls Tryd.prog 38 #[v, .string (mkS name)] w fun e w' => e = .returned (.tuple #[.string (mkS (getS (allF l name))), .bool (decide (0 < (allF l name).length))]) ∧ Below w.heap.size w w' := by
  have HA := Lib.hid (fall_any v l name w hs hz hn hl)
  unfold ListPost at HA
  obtain ⟨a, cap, rfl⟩ : ∃ a cap, v = .slice a l.length cap := by obtain ⟨a, c, h, -⟩ := hs; exact ⟨a, c, h⟩
  clear hs hz
  generalize allF l name = P at *
  go_enter Tryd.func38, Tryd.ntmps38
  go_wp2_with fail
  refine HA.out.mono ?_
  rintro e w1 ⟨v1, rfl, ho, hb⟩
  have HB := Lib.hid hb
  rcases P with _ | ⟨x, P⟩
  · obtain ⟨a1, c1, rfl⟩ : ∃ a c, v1 = .slice a 0 c := by
      rcases ho.2 with ⟨hv, hn⟩ | ⟨g, cap, cur, hv, _⟩
      · exact ⟨none, 0, hv⟩
      · exact ⟨_, _, hv⟩
    clear ho hb
    go_wp2_with fail
    refine (join_none c1 a1 _ w1).mono ?_
    rintro e w2 ⟨rfl, hb⟩
    have HB2 := Lib.hid (HB.out.trans (hb.mono HB.out.size))
    clear hb
    go_wp2_with fail
    go_ret2
    exact ⟨rfl, HB2.out⟩
  · have hP : P = [] := by
      simp at h1
      exact h1
    subst hP
    obtain ⟨g, c1, rfl⟩ : ∃ g c, v1 = .slice (some ⟨g, 0, none⟩) 1 c := by
      rcases ho.2 with ⟨hv, hn⟩ | ⟨g, cap, cur, hv, _⟩
      · simp at hn
      · exact ⟨_, _, hv⟩
    have hc : w1.cell? ⟨g, 0, none⟩ = some (.string (mkS x)) := ho.cellAt 0 (by decide)
    clear ho hb
    go_wp2_with fail
    refine (join_one g c1 _ _ w1 hc).mono ?_
    rintro e w2 ⟨rfl, hb⟩
    have HB2 := Lib.hid (HB.out.trans (hb.mono HB.out.size))
    clear hb
    go_wp2_with fail
    go_ret2
    exact ⟨rfl, HB2.out⟩
end Tk
end Go.Proofs.YtcddkeekabafgaaDoor
namespace Go.Proofs.YtcddkeekabafgaaDoor
open Go.RowKit
namespace Tk

theorem allF_app (a b : List (Bs × Bs)) (name : Bs) : allF (a ++ b) name = allF a name ++ allF b name := by unfold allF; simp
theorem allF_none (l : List (Bs × Bs)) (name : Bs) (h : ∀ f ∈ l, isN name f = false) : allF l name = [] := by
  unfold allF
  rw [List.filter_eq_nil_iff.2 (fun f hf => by rw [h f hf]; simp)]; rfl
theorem allF_del (name : Bs) (l : List (Bs × Bs)) : allF (delF name l) name = [] := by
  refine allF_none _ _ fun f hf => ?_
  have := (List.mem_filter.1 hf).2
  simpa using this
theorem isN_other {name other : Bs} (h : lowL name ≠ lowL other) (f : Bs × Bs) (hf : isN other f = true) : isN name f = false := by
  unfold isN at *
  simp only [decide_eq_true_eq, decide_eq_false_iff_not] at *
  intro e; exact h (by rw [← e, ← hf])
theorem allF_del_other {name other : Bs} (h : lowL name ≠ lowL other) (l : List (Bs × Bs)) : allF (delF name l) other = allF l other := by
  unfold allF delF
  rw [List.filter_filter]
  congr 1
  apply List.filter_congr
  intro f _
  cases hf : isN other f
  · simp
  · simp [isN_other h f hf]
theorem delF_app (name : Bs) (a b : List (Bs × Bs)) : delF name (a ++ b) = delF name a ++ delF name b := by unfold delF; simp
theorem delF_del (name : Bs) (l : List (Bs × Bs)) : delF name (delF name l) = delF name l :=
  delF_all name _ fun f hf => by
    have := (List.mem_filter.1 hf).2
    simpa using this
theorem isN_eq (name : Bs) (f : Bs × Bs) (x : Bs) : isN name (f.1, x) = isN name f := rfl
theorem isN_self (name x : Bs) : isN name (name, x) = true := by simp [isN]

/-- a list with a field of this name, cut at the first of them -/
theorem cut_at (name : Bs) (l : List (Bs × Bs)) (h : l.findIdx (isN name) < l.length) :
    ∃ a f b, l = a ++ f :: b ∧ (∀ g ∈ a, isN name g = false) ∧ isN name f = true ∧ ∀ x, setF name x l = a ++ (f.1, x) :: delF name b := by
  refine ⟨l.take (l.findIdx (isN name)), l.getD (l.findIdx (isN name)) ([], []), l.drop (l.findIdx (isN name) + 1), ?_, find_before name l, find_hit name l h, fun x => ?_⟩
  · have : l.drop (l.findIdx (isN name)) = l.getD (l.findIdx (isN name)) ([], []) :: l.drop (l.findIdx (isN name) + 1) := by rw [List.drop_eq_getElem_cons h]; simp [List.getD, h]
    rw [← this, List.take_append_drop]
  · unfold setF; rw [if_pos h]

theorem allF_cons (f : Bs × Bs) (b : List (Bs × Bs)) (name : Bs) : allF (f :: b) name = (if isN name f then [f.2] else []) ++ allF b name := by
  unfold allF
  cases h : isN name f <;> simp [h]
theorem delF_cons (f : Bs × Bs) (b : List (Bs × Bs)) (name : Bs) : delF name (f :: b) = (if isN name f then [] else [f]) ++ delF name b := by
  unfold delF
  cases h : isN name f <;> simp [h]

theorem set_all (name x : Bs) (l : List (Bs × Bs)) : allF (setF name x l) name = [x] := by
  by_cases h : l.findIdx (isN name) < l.length
  · obtain ⟨a, f, b, -, ha, hf, hs⟩ := cut_at name l h
    rw [hs, allF_app, allF_none a name ha, allF_cons, isN_eq, hf, allF_del]; rfl
  · unfold setF
    rw [if_neg h, allF_app, allF_none l name (find_none name l h), allF_cons, isN_self]; rfl
theorem set_del (name x : Bs) (l : List (Bs × Bs)) : delF name (setF name x l) = delF name l := by
  by_cases h : l.findIdx (isN name) < l.length
  · obtain ⟨a, f, b, hl, ha, hf, hs⟩ := cut_at name l h
    rw [hs, hl, delF_app, delF_app, delF_cons, delF_cons, isN_eq, hf, delF_del]; rfl
  · unfold setF
    rw [if_neg h, delF_app, delF_cons, isN_self]
    show delF name l ++ ([] ++ delF name []) = delF name l
    simp [delF]
theorem set_len (name x : Bs) (l : List (Bs × Bs)) : (setF name x l).length = (delF name l).length + 1 := by
  by_cases h : l.findIdx (isN name) < l.length
  · obtain ⟨a, f, b, hl, ha, hf, hs⟩ := cut_at name l h
    rw [hs, hl, delF_app, delF_cons, hf, delF_all name a ha]; simp; omega
  · unfold setF
    rw [if_neg h, delF_all name l (find_none name l h)]; simp
theorem set_other {name other : Bs} (hne : lowL name ≠ lowL other) (x : Bs) (l : List (Bs × Bs)) : allF (setF name x l) other = allF l other := by
  have hno : ∀ f, isN name f = true → isN other f = false := fun f hf => isN_other (Ne.symm hne) f hf
  by_cases h : l.findIdx (isN name) < l.length
  · obtain ⟨a, f, b, hl, ha, hf, hs⟩ := cut_at name l h
    rw [hs, hl, allF_app, allF_app, allF_cons, allF_cons, isN_eq, hno f hf, allF_del_other hne]; rfl
  · unfold setF
    rw [if_neg h, allF_app, allF_cons, hno _ (isN_self name x)]
    simp [allF]
theorem del_set (name x : Bs) (l : List (Bs × Bs)) : setF name x (delF name l) = delF name l ++ [(name, x)] := by
  unfold setF
  rw [if_neg]
  intro h
  have h1 := find_hit name _ h
  have h2 := (List.mem_filter.1 (show (delF name l).getD ((delF name l).findIdx (isN name)) ([], []) ∈ delF name l by simp [List.getD, h])).2
  rw [h1] at h2
  cases h2
theorem sameFs_refl : ∀ l : List (Bs × Bs), sameFs l l = true
  | [] => rfl
  | f :: t => by rw [sameFs, sameFs_refl t]; simp [eqF]
end Tk
end Go.Proofs.YtcddkeekabafgaaDoor
namespace Go.Proofs.YtcddkeekabafgaaDoor
open Go.RowKit
namespace Tk

set_option maxHeartbeats 400000 in
theorem closing_any (s : ByteArray) (i : Nat) (w : World) (h : s.size ≤ 1099511627776) (hi : i < s.size) :
    Calls Tryd.prog 71 #[.string s, .int .i64 i] w fun r w' => r = .returned (.int .i64 (closing (bs s) i)) ∧ w = w' := by
  have hlen := length_bs s
  have HL := Lib.hid hlen
  clear hlen
  go_enter Tryd.func71, Tryd.ntmps71
  go_wp2_with fail
  go_step3
  go_wp2_with fail
  go_step3
  go_wp2_with fail
  go_loop [5] (fun v => ∃ k : Nat, k ≤ s.size + 1 ∧ v = .int .i64 k ∧ Hid (closing (bs s) i = k + closeLen ((bs s).drop k))) (fun v => (s.size + 2 - (RowKit.intOf v).toNat))
  case atStart => exact ⟨i + 1, by omega, by go_num, rfl⟩
  case round =>
    obtain ⟨k, hk, rfl, hR⟩ := hrel
    by_cases hlt : k < s.size
    · have hdr := drop_cons (bs s) k (by rw [HL.out]; exact hlt)
      rw [getD_bs s k hlt] at hdr
      have HD := Lib.hid hdr
      clear hdr
      go_wp2_with fail
      · have h92 : ((s[k].toNat : Int) == 92) = true := by assumption
        have e := u8_is s[k] 92 (by omega) h92
        refine ⟨⟨k + 2, by omega, by go_num, ?_⟩, by simp [RowKit.intOf]; omega⟩
        show _ = _
        rw [hR.out, closeLen_bs _ (by rw [HD.out, e]; rfl), List.drop_drop]
        omega
      · have h34 : ((s[k].toNat : Int) == 34) = true := by assumption
        have e := u8_is s[k] 34 (by omega) h34
        have fin : closing (bs s) i = k := by
          rw [hR.out, HD.out, e]
          exact (congrArg (k + ·) (closeLen_q _))
        go_ret
        exact ⟨by rw [fin]; rfl, rfl⟩
      · have h92 : ((s[k].toNat : Int) == 92) = false := by assumption
        have h34 : ((s[k].toNat : Int) == 34) = false := by assumption
        refine ⟨⟨k + 1, by omega, by go_num, ?_⟩, by simp [RowKit.intOf]; omega⟩
        show _ = _
        rw [hR.out, HD.out, closeLen_o _ _ (u8_not _ 92 h92 (by omega)) (u8_not _ 34 h34 (by omega))]
        omega
    · have hdr : (bs s).drop k = [] := List.drop_eq_nil_of_le (by rw [HL.out]; omega)
      have fin : closing (bs s) i = k := by rw [hR.out, hdr]; rfl
      have HF := Lib.hid fin
      clear fin hdr
      go_wp2_with fail
      go_ret
      exact ⟨by rw [HF.out]; rfl, rfl⟩
end Tk
end Go.Proofs.YtcddkeekabafgaaDoor
namespace Go.Proofs.YtcddkeekabafgaaDoor
open Go.RowKit
namespace Tk

set_option maxHeartbeats 400000 in
theorem appendPart_any (base : Nat) (v : Value) (P : List Bs) (s : ByteArray) (w : World) (hown : w.ownsRow base 9 1 v P.length (strs P)) (hB : base ≤ w.heap.size) (hs : s.size ≤ 1099511627776) (hP : P.length ≤ 4398046511104) :
    Calls Tryd.prog 72 #[v, .string s] w (ListPost base (P ++ addP (trimL (bs s))) w) := by
  obtain ⟨i0, hi, hz0, hz1, hz2⟩ := info_parts strInfo
  have HT := Lib.hid (trim_any s w hs)
  have HO := Lib.hid hown
  have hl := trim_sublist (bs s)
  rw [length_bs] at hl
  clear hown
  generalize trimL (bs s) = t at *
  by_cases he : t = []
  · subst he
    have hne : (mkS []).toList.isEmpty = true := by rw [toList_bs]; rfl
    go_enter Tryd.func72, Tryd.ntmps72
    go_wp2_with fail
    refine HT.out.mono ?_
    rintro e w' ⟨rfl, hb⟩
    have HB := Lib.hid hb
    clear hb
    go_wp2_with fail
    go_ret
    refine ⟨v, rfl, ?_, HB.out.mono hB⟩
    have e : P ++ addP [] = P := by simp [addP]
    rw [e]
    exact World.ownsRow.kept HO.out (row := none) ⟨HB.out.os, HB.out.tape, HB.out.output, HB.out.size, fun k hk _ => HB.out.block k hk⟩ (by cases h : v.ownBlock <;> simp)
  · have hne : (mkS t).toList.isEmpty = false := by rw [toList_bs, bs_mkS]; simpa using he
    have hadd : addP t = [t] := by unfold addP; rw [if_neg he]
    go_enter Tryd.func72, Tryd.ntmps72
    go_wp2_with fail
    refine HT.out.mono ?_
    rintro e w' ⟨rfl, hb⟩
    have hown' : w'.ownsRow base 9 1 v P.length (strs P) := World.ownsRow.kept HO.out (row := none) ⟨hb.os, hb.tape, hb.output, hb.size, fun k hk _ => hb.block k hk⟩ (by cases h : v.ownBlock <;> simp)
    have hB' : base ≤ w'.heap.size := Nat.le_trans hB hb.size
    have HB := Lib.hid (hb.mono hB)
    clear hb
    go_wp2_with (at_builtin; refine wpList_append_own _ rfl _ _ 36 rfl base 9 i0 (.string .empty) 1 16 Tryd.underlying36 hi hz0 hz1 hz2 rfl (by decide) _ _ _ rfl (hown'.alloc _) ⟨w'.heap.size, 0, none⟩ 1 1 [.string (mkS t)] rfl rfl ?c1 ?c2 ?c3 ?c4 ?c5 ?_)
    case c1 => exact cell_one_new _ _ _
    case c2 => simp [Value.oneCell']
    case c3 => unfold maxLen; omega
    case c4 => omega
    case c5 => simp; omega
    intro v' w1 hown1 hg1 _
    have hb1 : Below base w w1 := HB.out.trans (((Below.refl base w').alloc hB' _).trans (below_of_grown hg1 (hown'.alloc _) (by simp; omega)))
    have HB1 := Lib.hid hb1
    have HO1 := Lib.hid hown1
    clear hb1 hown1 hg1
    go_wp2_with fail
    go_ret
    refine ⟨v', rfl, ?_, HB1.out⟩
    rw [hadd, List.length_append, strs_append]
    exact HO1.out
end Tk
end Go.Proofs.YtcddkeekabafgaaDoor
namespace Go.Proofs.YtcddkeekabafgaaDoor
open Go.RowKit
namespace Tk

set_option maxHeartbeats 1000000 in
theorem split_any (s : ByteArray) (w : World) (hs : s.size ≤ 1099511627776) :
    Calls Tryd.prog 63 #[.string s] w (ListPost w.heap.size (splitL (bs s)) w) := by
  have HL := Lib.hid (length_bs s)
  go_enter Tryd.func63, Tryd.ntmps63
  go_wp2_with fail
  go_loopw [3, 4, 5] (fun v vb vi wr => ∃ (i b : Nat) (P : List Bs), i ≤ s.size + 2 ∧ b ≤ s.size ∧ b ≤ i ∧ P.length ≤ i ∧ vi = .int .i64 i ∧ vb = .int .i64 b ∧ Hid (wr.ownsRow w.heap.size 9 1 v P.length (strs P)) ∧ Hid (Below w.heap.size w wr) ∧ Hid (splitL (bs s) = P ++ splAt (bs s) b i)) (fun _ _ vi _ => s.size + 2 - (RowKit.intOf vi).toNat)
  case atStart => exact ⟨0, 0, [], by omega, by omega, by omega, by simp, rfl, rfl, World.ownsRow_nil _ _ _ _, Below.refl _ _, splAt_start _⟩
  case round =>
    obtain ⟨i, b, P, hi, hb, hbi, hP, rfl, rfl, HO, HB, HS⟩ := hrel
    rename World => W
    rename Value => v
    by_cases hlt : i < s.size
    · have hgd := getD_bs s i hlt
      have HG := Lib.hid hgd
      clear hgd
      have hll : i < (bs s).length := by rw [HL.out]; exact hlt
      have HLL := Lib.hid hll
      clear hll
      go_wp2_with fail
      · have h34 : ((s[i].toNat : Int) == 34) = true := by assumption
        have e := HG.out.trans (u8_is s[i] 34 (by omega) h34)
        have hcl := closeLen_le ((bs s).drop (i + 1))
        rw [List.length_drop, HL.out] at hcl
        have H2 : Hid (splitL (bs s) = P ++ splAt (bs s) b (closing (bs s) i + 1)) := by
          show _ = _
          rw [HS.out, splAt_quote (bs s) b i HLL.out hbi e]; rfl
        have hc0 : i + 1 ≤ closing (bs s) i := by unfold closing; omega
        have hc1 : closing (bs s) i ≤ s.size + 1 := by unfold closing; omega
        clear hcl
        refine (closing_any s i _ hs hlt).mono ?_
        rintro e w' ⟨rfl, rfl⟩
        generalize closing (bs s) i = j at *
        go_wp2_with fail
        go_roundw
        case rel => exact ⟨j + 1, b, P, by omega, by omega, by omega, by omega, by go_num, rfl, HO, HB, H2⟩
        case measure => simp [RowKit.intOf]; omega
      · have h44 : ((s[i].toNat : Int) == 44) = true := by assumption
        have e := HG.out.trans (u8_is s[i] 44 (by omega) h44)
        refine (appendPart_any w.heap.size _ P (s.extract b i) _ HO.out HB.out.size (by rw [← length_bs, bs_extract, List.length_take]; omega) (by omega)).mono ?_
        rintro e w' ⟨v', rfl, ho', hb'⟩
        have H2 : Hid (splitL (bs s) = (P ++ addP (trimL (bs (s.extract b i)))) ++ splAt (bs s) (i + 1) (i + 1)) := by
          show _ = _
          rw [HS.out, splAt_comma (bs s) b i HLL.out e, bs_extract, List.append_assoc]
        have HB2 := Lib.hid (HB.out.trans hb')
        have HO2 := Lib.hid ho'
        clear hb' ho'
        have hlen : (P ++ addP (trimL (bs (s.extract b i)))).length ≤ i + 1 := by
          rw [List.length_append]; unfold addP; split <;> simp <;> omega
        generalize P ++ addP (trimL (bs (s.extract b i))) = P2 at *
        go_wp2_with fail
        go_roundw
        case rel => exact ⟨i + 1, i + 1, P2, by omega, by omega, by omega, by omega, by go_num, by go_num, HO2, HB2, H2⟩
        case measure => simp [RowKit.intOf]; omega
      · have h34 : ((s[i].toNat : Int) == 34) = false := by assumption
        have h44 : ((s[i].toNat : Int) == 44) = false := by assumption
        have n34 : (bs s).getD i 0 ≠ 34 := fun h => u8_not s[i] 34 h34 (by omega) (HG.out.symm.trans h)
        have n44 : (bs s).getD i 0 ≠ 44 := fun h => u8_not s[i] 44 h44 (by omega) (HG.out.symm.trans h)
        refine ⟨⟨i + 1, b, P, by omega, by omega, by omega, by omega, by go_num, rfl, HO, HB, ?_⟩, by simp [RowKit.intOf]; omega⟩
        show _ = _
        rw [HS.out, splAt_other (bs s) b i HLL.out hbi n44 n34]
    · go_wp2_with fail
      refine (appendPart_any w.heap.size _ P (s.extract b s.size) _ HO.out HB.out.size (by rw [← length_bs, bs_extract, List.length_take]; omega) (by omega)).mono ?_
      rintro e w' ⟨v', rfl, ho', hb'⟩
      have H2 : Hid (splitL (bs s) = P ++ addP (trimL (bs (s.extract b s.size)))) := by
        show _ = _
        rw [HS.out, splAt_end (bs s) b i (by rw [HL.out]; omega), bs_extract, List.take_of_length_le (by rw [List.length_drop, HL.out]; exact Nat.le_refl _)]
      have HB2 := Lib.hid (HB.out.trans hb')
      have HO2 := Lib.hid ho'
      clear hb' ho'
      go_wp2_with fail
      go_ret
      refine ⟨v', rfl, ?_, HB2.out⟩
      rw [H2.out]
      exact HO2.out
end Tk
end Go.Proofs.YtcddkeekabafgaaDoor
namespace Go.Proofs.YtcddkeekabafgaaDoor
open Go.RowKit
namespace Tk

/-- a slice that holds these texts -/
def IsStrs (w : World) (v : Value) (l : List Bs) : Prop :=
  ∃ (a : Option Addr) (c : Nat), v = .slice a l.length c ∧ ∀ j t, l[j]? = some t → ∃ b o, a = some ⟨b, o, none⟩ ∧ w.cell? ⟨b, o + j, none⟩ = some (.string (mkS t))

theorem isStrs_own {w : World} {base : Nat} {v : Value} {l : List Bs} (h : w.ownsRow base 9 1 v l.length (strs l)) : IsStrs w v l := by
  rcases h.2 with ⟨hv, hn⟩ | ⟨g, cap, cur, hv, hb, hg, -⟩
  · exact ⟨none, 0, by rw [hv, hn], fun j t hj => by simp [List.eq_nil_of_length_eq_zero hn] at hj⟩
  · refine ⟨some ⟨g, 0, none⟩, cap, hv, fun j t hj => ⟨g, 0, rfl, ?_⟩⟩
    have := h.cells (g := g) (by rw [hv]; rfl) j (.string (mkS t)) (by simp [strs, hj])
    rw [Nat.zero_add]
    by_cases hj0 : j = 0
    · subst hj0; simpa [Addr.add] using this
    · simpa [Addr.add, hj0] using this

theorem isStrs_later {w w' : World} {v : Value} {l : List Bs} {B : Nat} (h : IsStrs w v l) (hb : Below B w w') (hv : ∀ k, v.ownBlock = some k → k < B) : IsStrs w' v l := by
  obtain ⟨a, c, rfl, hc⟩ := h
  refine ⟨a, c, rfl, fun j t hj => ?_⟩
  obtain ⟨b, o, rfl, h2⟩ := hc j t hj
  exact ⟨b, o, rfl, (hb.cell (p := ⟨b, o + j, none⟩) (hv b rfl)).trans h2⟩

theorem isStrs_lit (w : World) (l : List Bs) (cs : Array Value) (t : TypeId) (c : Nat) (h : cs = (strs l).toArray) : IsStrs (w.alloc (.cells cs t)) (.slice (some ⟨w.heap.size, 0, none⟩) l.length c) l := by
  refine ⟨_, c, rfl, fun j x hj => ⟨w.heap.size, 0, rfl, ?_⟩⟩
  rw [Nat.zero_add, World.cell?_alloc_new, h]
  simp [strs, hj]

theorem isStrs_alloc {w : World} {base : Nat} {v : Value} {l : List Bs} (h : w.ownsRow base 9 1 v l.length (strs l)) (o : Obj) : IsStrs (w.alloc o) v l :=
  isStrs_own (h.alloc o)

set_option maxHeartbeats 1000000 in
theorem same_any (v1 v2 : Value) (l m : List Bs) (w : World) (h1 : IsStrs w v1 l) (h2 : IsStrs w v2 m) (hl : l.length ≤ 1099511627776) (_hm : m.length ≤ 1099511627776) :
    Calls Tryd.prog 17 #[v1, v2] w fun r w' => r = .returned (.bool (decide (l = m))) ∧ ∃ n, w' = w.drewN n := by
  obtain ⟨a1, c1, rfl, k1⟩ := h1
  obtain ⟨a2, c2, rfl, k2⟩ := h2
  have K1 := Lib.hid k1
  have K2 := Lib.hid k2
  clear k1 k2
  by_cases hne : l.length = m.length
  · have hb : ((l.length : Int) != (m.length : Int)) = false := by rw [hne]; simp
    have HN := Lib.hid hne
    clear hne
    go_enter Tryd.func17, Tryd.ntmps17
    go_wp2_with fail
    go_loopw [5] (fun v wr => ∃ (j n : Nat), j ≤ l.length ∧ v = .int .i64 j ∧ wr = w.drewN n ∧ Hid (decide (l = m) = decide (l.drop j = m.drop j))) (fun v _ => l.length - (RowKit.intOf v).toNat)
    case atStart => exact ⟨0, 0, Nat.zero_le _, rfl, rfl, rfl⟩
    case round =>
      obtain ⟨j, n, hj, rfl, rfl, hd⟩ := hrel
      by_cases hlt : j < l.length
      · obtain ⟨b1, o1, rfl, e1⟩ := K1.out j (l.getD j []) (by simp [List.getD, hlt])
        obtain ⟨b2, o2, rfl, e2⟩ := K2.out j (m.getD j []) (by have := HN.out; simp [List.getD, show j < m.length by omega])
        have hjm : j < m.length := by have := HN.out; omega
        have s1 : l.drop j = l.getD j [] :: l.drop (j + 1) := by rw [List.drop_eq_getElem_cons hlt]; simp [List.getD, hlt]
        have s2 : m.drop j = m.getD j [] :: m.drop (j + 1) := by rw [List.drop_eq_getElem_cons hjm]; simp [List.getD, hjm]
        have S1 := Lib.hid s1
        have S2 := Lib.hid s2
        clear s1 s2
        generalize l.getD j [] = x at *
        generalize m.getD j [] = y at *
        go_wp2_with fail
        go_quiet (fail)
        go_wp2_with fail
        · have hx : (!(mkS x).toList == (mkS y).toList) = true := by assumption
          have hxy : x ≠ y := by intro e; subst e; simp at hx
          have fin : decide (l = m) = false := by
            rw [hd.out, S1.out, S2.out]; simp [hxy]
          go_ret
          exact ⟨by rw [fin]; rfl, _, World.drewN_drewN _ _ _⟩
        · have hx : (!(mkS x).toList == (mkS y).toList) = false := by assumption
          have hxy : x = y := by
            rw [toList_bs, toList_bs, bs_mkS, bs_mkS] at hx
            simpa using hx
          refine ⟨⟨j + 1, _, by omega, by go_num, rfl, ?_⟩, by simp [RowKit.intOf]; omega⟩
          show _ = _
          rw [hd.out, S1.out, S2.out, hxy]; simp
      · have fin : decide (l = m) = true := by
          have := HN.out
          rw [hd.out, List.drop_eq_nil_of_le (by omega), List.drop_eq_nil_of_le (by omega)]; simp
        have HF := Lib.hid fin
        clear fin
        go_wp2_with fail
        go_ret
        exact ⟨by rw [HF.out]; rfl, _, rfl⟩
  · have hb : ((l.length : Int) != (m.length : Int)) = true := by simp; omega
    have hf : decide (l = m) = false := by simp; exact fun e => hne (congrArg _ e)
    have HF := Lib.hid hf
    clear hf hne
    go_enter Tryd.func17, Tryd.ntmps17
    go_wp2_with fail
    go_ret
    exact ⟨by rw [HF.out]; rfl, 0, rfl⟩
end Tk
end Go.Proofs.YtcddkeekabafgaaDoor
namespace Go.Proofs.YtcddkeekabafgaaDoor
open Go.RowKit
namespace Tk

/-- an owned row in a later world -/
theorem own_later {w w' : World} {B : Nat} {v : Value} {n : Nat} {xs : List Value} {e : TypeId} (h : w.ownsRow B e 1 v n xs) (hb : Below w.heap.size w w') : w'.ownsRow B e 1 v n xs :=
  World.ownsRow.kept h (row := none) ⟨hb.os, hb.tape, hb.output, hb.size, fun k hk _ => hb.block k hk⟩ (by cases h : v.ownBlock <;> simp)

theorem join_run (w : World) (o : Oper) (a : Act) (K : Act → World → Prop) (Q : Exit → Act → World → Prop) (s x : Operand)
    (ho : o.op = .call { callee := .builtin .append, args := #[s, x], argTypes := #[36, 36] })
    (base base2 : Nat) (v v2 : Value) (P R : List Bs) (hs : a.eval s = v) (hx : a.eval x = v2) (h1 : w.ownsRow base 9 1 v P.length (strs P)) (h2 : w.ownsRow base2 9 1 v2 R.length (strs R))
    (hB : base ≤ w.heap.size) (hP : P.length ≤ 1048576) (hR : R.length ≤ 1048576)
    (h : ∀ v' w', w'.ownsRow base 9 1 v' (P ++ R).length (strs (P ++ R)) → Below base w w' → K (a.put o.dst v') w') : o.wp Tryd.prog a w K Q := by
  obtain ⟨i0, hi, hz0, hz1, hz2⟩ := info_parts strInfo
  rcases h2.2 with ⟨hv, hn⟩ | ⟨g, cap, cur, hv, hb, hg, hc⟩
  · have hrun := run_append_owned_none (P := Tryd.prog) (w := w) base 36 o.type 9 i0 1 Tryd.underlying36 hi v P.length (strs P) h1
    have hR0 : R = [] := List.eq_nil_of_length_eq_zero hn
    subst hR0
    unfold Oper.wp
    simp [execOp, ho, resolve, invoke, builtin, hs, hx, hv, hrun, Result.andThen]
    exact h v w (by simpa using h1) (Below.refl _ _)
  · refine wp_append_own (P := Tryd.prog) w s x 36 ho base 9 i0 (.string .empty) 1 16 Tryd.underlying36 hi hz0 hz1 hz2 rfl (by decide) v P.length (strs P) hs h1 ⟨g, 0, none⟩ R.length cap (strs R) (by rw [hx, hv]) (by simp [strs])
      (h2.cells (g := g) (by rw [hv]; rfl)) (fun u hu => by
        simp only [strs, List.mem_map] at hu
        obtain ⟨t, -, rfl⟩ := hu
        rfl) (by unfold maxLen; omega) (by omega) hB ?_
    intro v' w' ho' hg' _
    refine h v' w' ?_ (below_of_grown hg' h1 hB)
    rw [List.length_append, strs_append]
    exact ho'

theorem join_guarded {ops : Array Oper} {rest : List Oper} {w : World} {o : Oper} {a : Act} {Q : Exit → Act → World → Prop} (hw : Region.wanted o (yielded ops a.tmps) = true) (s x : Operand)
    (ho : o.op = .call { callee := .builtin .append, args := #[s, x], argTypes := #[36, 36] })
    (base base2 : Nat) (v v2 : Value) (P R : List Bs) (hs : a.eval s = v) (hx : a.eval x = v2) (h1 : w.ownsRow base 9 1 v P.length (strs P)) (h2 : w.ownsRow base2 9 1 v2 R.length (strs R))
    (hB : base ≤ w.heap.size) (hP : P.length ≤ 1048576) (hR : R.length ≤ 1048576)
    (h : ∀ v' w', w'.ownsRow base 9 1 v' (P ++ R).length (strs (P ++ R)) → Below base w w' → wpList Tryd.prog ops Q rest (a.put o.dst v') w') : wpList Tryd.prog ops Q (o :: rest) a w :=
  BigFrame.wpList_want hw fun K hK => join_run w o a K Q s x ho base base2 v v2 P R hs hx h1 h2 hB hP hR fun v' w' a b => hK _ _ (h v' w' a b)
end Tk
end Go.Proofs.YtcddkeekabafgaaDoor
namespace Go.Proofs.YtcddkeekabafgaaDoor
open Go.RowKit
namespace Tk

def joinB (P : List Bs) : Bs := Lib.join P [44, 32]
theorem joinB_nil : joinB [] = [] := rfl
theorem map_mkS : ∀ (P : List Bs), (P.map mkS).map (·.data.toList) = P
  | [] => rfl
  | x :: t => by rw [List.map_cons, List.map_cons, map_mkS t]; rfl
theorem sum_all (name : Bs) : ∀ l : List (Bs × Bs), Lib.lens (allF l name) + 2 * (allF l name).length ≤ sumF l
  | [] => by simp [allF, Lib.lens, sumF]
  | f :: t => by
    have ih := sum_all name t
    have e : allF (f :: t) name = (if isN name f then [f.2] else []) ++ allF t name := by unfold allF; cases h : isN name f <;> simp [h]
    rw [e]
    unfold sumF
    cases isN name f
    · simp; omega
    · simp [Lib.lens] at *; omega
theorem joinB_le (name : Bs) (l : List (Bs × Bs)) : (joinB (allF l name)).length ≤ sumF l := by
  have h := sum_all name l
  unfold joinB
  cases hh : allF l name with
  | nil => simp [Lib.join_nil]
  | cons x r => rw [Lib.join_length]; rw [hh] at h; simp only [List.length_cons, List.length_nil] at *; omega
/-- what List tells -/
def listF (l : List (Bs × Bs)) (name : Bs) : List Bs := (allF l name).flatMap splitL
theorem flat_len : ∀ P : List Bs, (P.flatMap splitL).length ≤ Lib.lens P + P.length
  | [] => by simp
  | x :: t => by
    have := flat_len t
    have h2 := split_len x
    simp [Lib.lens] at *; omega
theorem listF_len (name : Bs) (l : List (Bs × Bs)) : (listF l name).length ≤ sumF l := by
  have := flat_len (allF l name)
  have h := sum_all name l
  unfold listF; omega
theorem flat_piece : ∀ (P : List Bs) (p : Bs), p ∈ P.flatMap splitL → p.length ≤ Lib.lens P
  | [], p, h => by simp at h
  | x :: t, p, h => by
    rw [List.flatMap_cons, List.mem_append] at h
    rcases h with h | h
    · have := split_piece x p h; simp [Lib.lens] at *; omega
    · have := flat_piece t p h; simp [Lib.lens] at *; omega
theorem listF_piece (name : Bs) (l : List (Bs × Bs)) (p : Bs) (h : p ∈ listF l name) : p.length ≤ sumF l := by
  have := flat_piece _ p h
  have h := sum_all name l
  omega
theorem all_piece (name : Bs) (l : List (Bs × Bs)) (p : Bs) (h : p ∈ allF l name) : p.length ≤ sumF l := by
  have h2 := sum_all name l
  have : ∀ (P : List Bs), p ∈ P → p.length ≤ Lib.lens P := by
    intro P
    induction P with
    | nil => intro h; simp at h
    | cons x t ih =>
      intro h
      rcases List.mem_cons.1 h with rfl | h
      · simp [Lib.lens]
      · have := ih h; simp [Lib.lens] at *; omega
  have := this _ h
  omega
theorem take_flat (P : List Bs) (i : Nat) (h : i < P.length) : (P.take (i + 1)).flatMap splitL = (P.take i).flatMap splitL ++ splitL (P.getD i []) := by
  rw [List.take_succ_eq_append_getElem h, List.flatMap_append]; simp [List.getD, h]
theorem flat_sub (P : List Bs) (i : Nat) : ((P.take i).flatMap splitL).length ≤ (P.flatMap splitL).length := by
  have e : P.flatMap splitL = (P.take i).flatMap splitL ++ (P.drop i).flatMap splitL := by rw [← List.flatMap_append, List.take_append_drop]
  rw [e, List.length_append]; omega

theorem sum_each (l : List (Bs × Bs)) (hz : sumF l ≤ 1099511627) : ∀ f ∈ l, f.1.length ≤ 1099511627776 ∧ f.2.length ≤ 1099511627776 := fun f hf => by
  have := sumF_mem l f hf; omega

set_option maxHeartbeats 4000000 in
set_option maxRecDepth 100000 in
theorem jnone_any (c : Nat) (a : Option Addr) (w : World) :
    Calls Tryd.prog 55 #[.slice a 0 c, .string ⟨#[44, 32]⟩] w fun e w' => e = .returned (.string ⟨#[]⟩) ∧ Below w.heap.size w w' := by
  go_enter Tryd.func55, Tryd.ntmps55
  go_wp2_with fail
  go_ret
  exact ⟨rfl, Below.refl _ _⟩
theorem joinP_any (v : Value) (P : List Bs) (base : Nat) (w : World) (ho : w.ownsRow base 9 1 v P.length (strs P)) (hP : P.length ≤ 1048576) (hj : (joinB P).length ≤ 1099511627776) :
    Calls Tryd.prog 55 #[v, .string ⟨#[44, 32]⟩] w fun e w' => e = .returned (.string (mkS (joinB P))) ∧ Below w.heap.size w w' := by
  rcases ho.2 with ⟨hv, hn⟩ | ⟨g, cap, cur, hv, hb, hg, hcap, -⟩
  · have hP0 : P = [] := List.eq_nil_of_length_eq_zero hn
    subst hP0
    rw [hv]
    exact jnone_any 0 none w
  · have hcells : ∀ (j : Nat) (x : ByteArray), (P.map mkS)[j]? = some x → w.cell? ⟨g, 0 + j, none⟩ = some (.string x) := by
      intro j x hx
      rw [List.getElem?_map] at hx
      obtain ⟨t, ht, rfl⟩ := Option.map_eq_some_iff.1 hx
      obtain ⟨a, c, e, hc⟩ := isStrs_own ho
      rw [hv] at e
      injection e with e1 _ _
      obtain ⟨b, o, e3, hc⟩ := hc j t ht
      rw [← e1] at e3
      injection e3 with e3
      injection e3 with e4 e5
      subst e4 e5
      exact hc
    have hlt := (ho.lt g (by rw [hv]; rfl)).2
    have h := Tryd.strings_Join g 0 cap (P.map mkS) ⟨#[44, 32]⟩ w hcells hlt (by rw [List.length_map]; omega) (by rw [List.length_map]; exact hcap) (by rw [map_mkS]; exact Nat.le_trans hj (by omega))
    rw [map_mkS, List.length_map] at h
    rw [hv]
    exact h

set_option maxHeartbeats 4000000 in
set_option maxRecDepth 100000 in
theorem fget_any (v : Value) (l : List (Bs × Bs)) (name : Bs) (w : World) (hs : IsFlds w v l) (hz : sumF l ≤ 1099511627) (hn : name.length ≤ 1099511627776) (hl : l.length ≤ 1048576) :
    Calls Tryd.prog 38 #[v, .string (mkS name)] w fun e w' => e = .returned (.tuple #[.string (mkS (joinB (allF l name))), .bool (decide (0 < (allF l name).length))]) ∧ Below w.heap.size w w' := by
  have HA := Lib.hid (fall_any v l name w hs (sum_each l hz) hn hl)
  unfold ListPost at HA
  obtain ⟨a, cap, rfl⟩ : ∃ a cap, v = .slice a l.length cap := by obtain ⟨a, c, h, -⟩ := hs; exact ⟨a, c, h⟩
  have hjl := joinB_le name l
  have hal := allF_len l name
  have hj : (joinB (allF l name)).length ≤ 1099511627776 := by omega
  have hP : (allF l name).length ≤ 1048576 := by omega
  clear hs hz hjl hal
  generalize allF l name = P at *
  go_enter Tryd.func38, Tryd.ntmps38
  go_wp2_with fail
  refine HA.out.mono ?_
  rintro e w1 ⟨v1, rfl, ho, hb⟩
  have HB := Lib.hid hb
  have HJ := Lib.hid (joinP_any v1 P _ w1 ho hP hj)
  obtain ⟨a1, c1, rfl⟩ : ∃ a c, v1 = .slice a P.length c := by obtain ⟨a, c, h, -⟩ := isStrs_own ho; exact ⟨a, c, h⟩
  clear ho hb hj
  by_cases hp : 0 < P.length
  all_goals
    go_wp2_with fail
    refine HJ.out.mono ?_
    rintro e w2 ⟨rfl, hb⟩
    have HB2 := Lib.hid (HB.out.trans (hb.mono HB.out.size))
    clear hb
    go_wp2_with fail
    go_ret2
    exact ⟨by first | (rw [decide_eq_true hp]; done) | (rw [decide_eq_false hp]; done) | (simp [hp]; done) | rfl, HB2.out⟩

end Tk
end Go.Proofs.YtcddkeekabafgaaDoor
namespace Go.Proofs.YtcddkeekabafgaaDoor
namespace Tk

/-- Connection, Via, Host, Content-Length, Expect -/
def cnB : Bs := [67, 111, 110, 110, 101, 99, 116, 105, 111, 110]
def viB : Bs := [86, 105, 97]
def hoB : Bs := [72, 111, 115, 116]
def clB : Bs := [67, 111, 110, 116, 101, 110, 116, 45, 76, 101, 110, 103, 116, 104]
def exB : Bs := [69, 120, 112, 101, 99, 116]
/-- the seven names -/
def hopN : List Bs := [[67, 111, 110, 110, 101, 99, 116, 105, 111, 110], [75, 101, 101, 112, 45, 65, 108, 105, 118, 101], [80, 114, 111, 120, 121, 45, 67, 111, 110, 110, 101, 99, 116, 105, 111, 110], [84, 69], [84, 114, 97, 105, 108, 101, 114], [84, 114, 97, 110, 115, 102, 101, 114, 45, 69, 110, 99, 111, 100, 105, 110, 103], [85, 112, 103, 114, 97, 100, 101]]
def hopL : List Bs := hopN.map lowL
def isHop (n : Bs) : Bool := decide (lowL n ∈ hopL)
/-- is the name of this field, in small letters, in the set? -/
def inS (S : List Bs) (f : Bs × Bs) : Bool := decide (lowL f.1 ∈ S)
/-- the fields whose names are not in the set -/
def wipe (S : List Bs) (l : List (Bs × Bs)) : List (Bs × Bs) := l.filter fun f => !inS S f
/-- what Connection names, in small letters -/
def optS (l : List (Bs × Bs)) : List Bs := (listF l cnB).map lowL
def goneS (more : List Bs) (l : List (Bs × Bs)) : List Bs := hopL ++ optS l ++ more.map lowL
def withL (more : List Bs) (l : List (Bs × Bs)) : List (Bs × Bs) := wipe (goneS more l) l
def stripL (l : List (Bs × Bs)) : List (Bs × Bs) := withL [] l
def digI (n : Int) : Bs := Lib.itoa n
def viaS (minor : Int) (name : Bs) : Bs := [49, 46] ++ digI minor ++ [32] ++ name
def viaV (l : List (Bs × Bs)) (minor : Int) (name : Bs) : Bs := if 0 < (allF l viB).length then joinB (allF l viB) ++ [44, 32] ++ viaS minor name else viaS minor name
def viaL (l : List (Bs × Bs)) (minor : Int) (name : Bs) : List (Bs × Bs) := setF viB (viaV l minor name) l
def hosL (l : List (Bs × Bs)) : List (Bs × Bs) := if 0 < (allF l hoB).length then l else l ++ [(hoB, [])]
def keptL (m : Bs) (l : List (Bs × Bs)) : List (Bs × Bs) := if m = [] then withL [clB] l else hosL (withL [clB, exB] l)
def forwL (m : Bs) (l : List (Bs × Bs)) (minor : Int) (name : Bs) : List (Bs × Bs) := viaL (keptL m l) minor name
def clsB : Bs := [99, 108, 111, 115, 101]
def kalB : Bs := [107, 101, 101, 112, 45, 97, 108, 105, 118, 101]
def closesB (l : List (Bs × Bs)) (minor : Int) : Bool := decide (clsB ∈ optS l) || (decide (minor = 0) && !decide (kalB ∈ optS l))

theorem hop_low : ∀ x ∈ hopL, lowL x = x := by decide
theorem cn_hop : lowL cnB ∈ hopL := by decide
theorem vi_hop : lowL viB ∉ hopL := by decide
theorem ho_hop : lowL hoB ∉ hopL := by decide
theorem vi_ho : lowL viB ≠ lowL hoB := by decide
theorem vi_cl : lowL viB ≠ lowL clB := by decide
theorem vi_ex : lowL viB ≠ lowL exB := by decide
theorem ho_cl : lowL hoB ≠ lowL clB := by decide
theorem ho_ex : lowL hoB ≠ lowL exB := by decide

theorem wipe_snoc (S : List Bs) (l : List (Bs × Bs)) (f : Bs × Bs) : wipe S (l ++ [f]) = wipe S l ++ (if inS S f then [] else [f]) := by
  unfold wipe
  cases h : inS S f <;> simp [h]
theorem wipe_app (S : List Bs) (a b : List (Bs × Bs)) : wipe S (a ++ b) = wipe S a ++ wipe S b := by unfold wipe; simp
theorem wipe_all (S : List Bs) (l : List (Bs × Bs)) (h : ∀ f ∈ l, inS S f = false) : wipe S l = l := by
  unfold wipe
  rw [List.filter_eq_self]
  intro f hf
  rw [h f hf]; rfl
theorem wipe_len (S : List Bs) (l : List (Bs × Bs)) : (wipe S l).length ≤ l.length := List.length_filter_le _ _
theorem wipe_mem (S : List Bs) (l : List (Bs × Bs)) (f : Bs × Bs) (h : f ∈ wipe S l) : f ∈ l ∧ lowL f.1 ∉ S := by
  have h2 := List.mem_filter.1 h
  refine ⟨h2.1, fun e => ?_⟩
  have := h2.2
  unfold inS at this
  rw [decide_eq_true e] at this
  cases this
theorem wipe_wipe (S T : List Bs) (l : List (Bs × Bs)) : wipe S (wipe T l) = wipe (T ++ S) l := by
  unfold wipe
  rw [List.filter_filter]
  apply List.filter_congr
  intro f _
  unfold inS
  rw [Bool.eq_iff_iff]
  simp [and_comm]
theorem wipe_congr (S T : List Bs) (l : List (Bs × Bs)) (h : ∀ x, x ∈ S ↔ x ∈ T) : wipe S l = wipe T l := by
  unfold wipe
  apply List.filter_congr
  intro f _
  unfold inS
  congr 2
  exact propext (h _)
theorem del_wipe (name : Bs) (l : List (Bs × Bs)) : delF name l = wipe [lowL name] l := by
  unfold delF wipe
  apply List.filter_congr
  intro f _
  unfold isN inS
  simp
theorem allF_wipe (S : List Bs) (l : List (Bs × Bs)) (name : Bs) : allF (wipe S l) name = if lowL name ∈ S then [] else allF l name := by
  unfold allF wipe
  rw [List.filter_filter]
  by_cases h : lowL name ∈ S
  · rw [if_pos h, List.filter_eq_nil_iff.2]; rfl
    intro f _
    unfold isN inS
    by_cases e : lowL f.1 = lowL name
    · simp [e, h]
    · simp [e]
  · rw [if_neg h]
    congr 1
    apply List.filter_congr
    intro f _
    unfold isN inS
    by_cases e : lowL f.1 = lowL name
    · simp [e, h]
    · simp [e]
theorem listF_wipe (S : List Bs) (l : List (Bs × Bs)) (name : Bs) (h : lowL name ∈ S) : listF (wipe S l) name = [] := by
  unfold listF; rw [allF_wipe, if_pos h]; rfl
theorem gone_hop (more : List Bs) (l : List (Bs × Bs)) (x : Bs) (h : x ∈ hopL) : x ∈ goneS more l := by unfold goneS; simp [h]
theorem opt_with (more : List Bs) (l : List (Bs × Bs)) : optS (withL more l) = [] := by
  unfold optS withL
  rw [listF_wipe _ _ _ (gone_hop more l _ cn_hop)]; rfl
theorem strip_strip (l : List (Bs × Bs)) : stripL (stripL l) = stripL l := by
  refine wipe_all _ _ fun f hf => ?_
  have h := (wipe_mem _ _ _ hf).2
  unfold inS goneS
  unfold goneS at h
  rw [show stripL l = withL [] l from rfl, opt_with]
  simp only [List.map_nil, List.append_nil] at *
  simp only [List.mem_append, not_or] at h
  simp [h.1]
theorem strip_all (l : List (Bs × Bs)) (name : Bs) : allF (stripL l) name = if lowL name ∈ hopL ∨ lowL name ∈ optS l then [] else allF l name := by
  unfold stripL withL
  rw [allF_wipe]
  unfold goneS
  simp
theorem strip_len (l : List (Bs × Bs)) : (stripL l).length ≤ l.length := wipe_len _ _
/-- what Forward leaves, in the document's steps -/
theorem with_one (a : Bs) (l : List (Bs × Bs)) : withL [a] l = delF a (stripL l) := by
  rw [del_wipe]
  unfold stripL withL
  rw [wipe_wipe]
  apply wipe_congr
  intro x
  unfold goneS
  simp
theorem with_two (a b : Bs) (l : List (Bs × Bs)) : withL [a, b] l = delF b (delF a (stripL l)) := by
  rw [del_wipe, del_wipe]
  unfold stripL withL
  rw [wipe_wipe, wipe_wipe]
  apply wipe_congr
  intro x
  unfold goneS
  simp

/-! ### what is passed on -/
theorem set_mem (name x : Bs) (l : List (Bs × Bs)) (f : Bs × Bs) (h : f ∈ setF name x l) : lowL f.1 = lowL name ∨ f ∈ l := by
  by_cases hc : l.findIdx (isN name) < l.length
  · obtain ⟨a, g, b, hl, ha, hg, hs⟩ := cut_at name l hc
    rw [hs] at h
    rw [hl]
    rcases List.mem_append.1 h with h | h
    · exact .inr (by simp [h])
    · rcases List.mem_cons.1 h with h | h
      · left
        rw [h]
        exact of_decide_eq_true hg
      · exact .inr (by simp [(List.mem_filter.1 h).1])
  · unfold setF at h
    rw [if_neg hc] at h
    rcases List.mem_append.1 h with h | h
    · exact .inr h
    · left
      rw [List.mem_singleton] at h
      rw [h]
theorem hos_mem (l : List (Bs × Bs)) (f : Bs × Bs) (h : f ∈ hosL l) : f ∈ l ∨ f = (hoB, []) := by
  unfold hosL at h
  split at h
  · exact .inl h
  · simpa using h
theorem forw_mem (m : Bs) (l : List (Bs × Bs)) (minor : Int) (p : Bs) (f : Bs × Bs) (h : f ∈ forwL m l minor p) :
    lowL f.1 = lowL viB ∨ (m ≠ [] ∧ lowL f.1 = lowL hoB) ∨ (lowL f.1 ∉ hopL ∧ lowL f.1 ∉ optS l ∧ lowL f.1 ≠ lowL clB ∧ (m ≠ [] → lowL f.1 ≠ lowL exB)) := by
  rcases set_mem _ _ _ _ h with h | h
  · exact .inl h
  unfold keptL at h
  by_cases hm : m = []
  · rw [if_pos hm] at h
    have h2 := (wipe_mem _ _ _ h).2
    unfold goneS at h2
    simp only [List.map_cons, List.map_nil, List.mem_append, List.mem_cons, List.not_mem_nil, or_false, not_or] at h2
    exact .inr (.inr ⟨h2.1.1, h2.1.2, h2.2, fun e => absurd hm e⟩)
  · rw [if_neg hm] at h
    rcases hos_mem _ _ h with h | h
    · have h2 := (wipe_mem _ _ _ h).2
      unfold goneS at h2
      simp only [List.map_cons, List.map_nil, List.mem_append, List.mem_cons, List.not_mem_nil, or_false, not_or] at h2
      exact .inr (.inr ⟨h2.1.1, h2.1.2, h2.2.1, fun _ => h2.2.2⟩)
    · exact .inr (.inl ⟨hm, by rw [h]⟩)
theorem forw_hop (m : Bs) (l : List (Bs × Bs)) (minor : Int) (p : Bs) (f : Bs × Bs) (h : f ∈ forwL m l minor p) : isHop f.1 = false := by
  unfold isHop
  rw [decide_eq_false_iff_not]
  rcases forw_mem m l minor p f h with h | ⟨-, h⟩ | h
  · rw [h]; exact vi_hop
  · rw [h]; exact ho_hop
  · exact h.1
theorem allF_pos (l : List (Bs × Bs)) (name : Bs) (h : 0 < (allF l name).length) : ∃ f ∈ l, lowL f.1 = lowL name := by
  unfold allF at h
  rw [List.length_map] at h
  obtain ⟨f, hf⟩ := List.exists_mem_of_length_pos h
  have := List.mem_filter.1 hf
  exact ⟨f, this.1, of_decide_eq_true this.2⟩
/-- a field that Connection named is not passed on, but for the proxy's own -/
theorem forw_named (m : Bs) (l : List (Bs × Bs)) (minor : Int) (p x : Bs) (hx : x ∈ listF l cnB) (h : 0 < (allF (forwL m l minor p) x).length) : lowL x = lowL viB ∨ (m ≠ [] ∧ lowL x = lowL hoB) := by
  obtain ⟨f, hf, he⟩ := allF_pos _ _ h
  have ho : lowL x ∈ optS l := List.mem_map.2 ⟨x, hx, rfl⟩
  rcases forw_mem m l minor p f hf with h | ⟨h1, h⟩ | h
  · exact .inl (by rw [← he, h])
  · exact .inr ⟨h1, by rw [← he, h]⟩
  · rw [he] at h
    exact absurd ho h.2.1
theorem forw_opt (m : Bs) (l : List (Bs × Bs)) (minor : Int) (p : Bs) : optS (forwL m l minor p) = [] := by
  unfold optS listF
  rw [allF_none]; rfl
  intro f hf
  have h := forw_hop m l minor p f hf
  unfold isHop at h
  rw [decide_eq_false_iff_not] at h
  unfold isN
  rw [decide_eq_false_iff_not]
  intro e
  rw [e] at h
  exact h cn_hop
theorem hos_has (l : List (Bs × Bs)) : 0 < (allF (hosL l) hoB).length := by
  unfold hosL
  split
  · assumption
  · rw [allF_app, allF_cons, isN_self, List.length_append]; simp; omega
/-- what is passed on again is passed on as it is -/
theorem forw_kept (m : Bs) (l : List (Bs × Bs)) (minor : Int) (p : Bs) : keptL m (forwL m l minor p) = forwL m l minor p := by
  have hm := forw_mem m l minor p
  have ho := forw_opt m l minor p
  have hin : ∀ (more : List Bs), (∀ x ∈ more, x = clB ∨ (m ≠ [] ∧ x = exB)) → withL more (forwL m l minor p) = forwL m l minor p := by
    intro more hmore
    refine wipe_all _ _ fun f hf => ?_
    unfold inS goneS
    rw [ho, decide_eq_false_iff_not]
    simp only [List.mem_append, List.not_mem_nil, or_false, not_or]
    have hno := forw_hop m l minor p f hf
    unfold isHop at hno
    rw [decide_eq_false_iff_not] at hno
    refine ⟨hno, fun h => ?_⟩
    rw [List.mem_map] at h
    obtain ⟨x, hx, e⟩ := h
    rcases hmore x hx with rfl | ⟨hne, rfl⟩
    · rcases hm f hf with h | ⟨-, h⟩ | h
      · exact vi_cl (h ▸ e.symm)
      · exact ho_cl (h ▸ e.symm)
      · exact h.2.2.1 e.symm
    · rcases hm f hf with h | ⟨-, h⟩ | h
      · exact vi_ex (h ▸ e.symm)
      · exact ho_ex (h ▸ e.symm)
      · exact h.2.2.2 hne e.symm
  unfold keptL
  by_cases hmm : m = []
  · rw [if_pos hmm]
    exact hin [clB] (by simp)
  · rw [if_neg hmm, hin [clB, exB] (by intro x hx; simp at hx; rcases hx with rfl | rfl; exact .inl rfl; exact .inr ⟨hmm, rfl⟩)]
    unfold hosL
    rw [if_pos]
    unfold forwL viaL
    rw [set_other vi_ho]
    unfold keptL
    rw [if_neg hmm]
    exact hos_has _
theorem forw_via (m : Bs) (l : List (Bs × Bs)) (minor : Int) (p : Bs) : allF (forwL m l minor p) viB = [viaV (keptL m l) minor p] := set_all _ _ _
theorem joinB_one (x : Bs) : joinB [x] = x := by unfold joinB Lib.join; simp [List.intercalate]
/-- passed on twice: one more name in Via .. -/
theorem forw_twice (m : Bs) (l : List (Bs × Bs)) (minor : Int) (p q : Bs) : joinB (allF (forwL m (forwL m l minor p) 1 q) viB) = joinB (allF (forwL m l minor p) viB) ++ ([44, 32] ++ viaS 1 q) := by
  rw [forw_via, joinB_one]
  unfold viaV
  rw [forw_kept, forw_via, if_pos (by simp), joinB_one, List.append_assoc]
/-- .. and otherwise the same -/
theorem forw_same (m : Bs) (l : List (Bs × Bs)) (minor : Int) (p q : Bs) : delF viB (forwL m (forwL m l minor p) 1 q) = delF viB (forwL m l minor p) := by
  show delF viB (setF viB (viaV (keptL m (forwL m l minor p)) 1 q) (keptL m (forwL m l minor p))) = _
  rw [forw_kept, set_del]
theorem via_has (m : Bs) (l : List (Bs × Bs)) (minor : Int) (p : Bs) : 0 < (allF (forwL m l minor p) viB).length := by rw [forw_via]; simp

/-! ### one more name in Connection -/
theorem strip_more (l : List (Bs × Bs)) (c y : Bs) (names : List Bs) (hc : lowL c = lowL cnB) (hy : splitL y = names) : stripL (l ++ [(c, y)]) = wipe (names.map lowL) (stripL l) := by
  have ho : optS (l ++ [(c, y)]) = optS l ++ names.map lowL := by
    unfold optS listF
    rw [allF_app, allF_cons, show isN cnB (c, y) = true from decide_eq_true hc]
    simp [allF, hy]
  unfold stripL withL goneS
  rw [ho, wipe_app, wipe_wipe]
  rw [show wipe (hopL ++ (optS l ++ names.map lowL) ++ List.map lowL []) [(c, y)] = [] by
    unfold wipe
    rw [List.filter_eq_nil_iff]
    intro f hf
    rw [List.mem_singleton] at hf
    subst hf
    unfold inS
    have : lowL c ∈ hopL := by rw [hc]; exact cn_hop
    simp [this]]
  rw [List.append_nil]
  apply wipe_congr
  intro x
  simp
end Tk
end Go.Proofs.YtcddkeekabafgaaDoor
namespace Go.Proofs.YtcddkeekabafgaaDoor
open Go.RowKit
namespace Tk

/-- the byte at place t when the first i are in small letters -/
def mixAt (l : Bs) (i t : Nat) : UInt8 := if t < i then lowB (l.getD t 0) else l.getD t 0

theorem bytesRow_at (s : ByteArray) (cap t : Nat) (h : t < s.size) : (bytesRow s cap)[t]? = some (.int .u8 (((bs s).getD t 0).toNat : Int)) := by
  unfold bytesRow
  rw [Array.getElem?_append_left (by simpa using h), Array.getElem?_map]
  have e : (bs s).getD t 0 = s.data[t]'h := by rw [getD_bs s t h]; rfl
  rw [e, Array.getElem?_eq_getElem h]; rfl

set_option maxRecDepth 100000 in
set_option maxHeartbeats 1000000 in
theorem tlower_any (s : ByteArray) (w : World) (hs : s.size ≤ 1099511627776) :
    Calls Tryd.prog 43 #[.string s] w (StrPost (lowL (bs s)) w) := by
  have HL := Lib.hid (length_bs s)
  have hconv := run_bytes_of_string (P := Tryd.prog) w 9 68 5 s Tryd.underlying9 Tryd.underlying68 Tryd.underlying5
  have hC : ∀ t, t < s.size → (bytesRow s (grownCap w s.size 0 5))[t]? = some (.int .u8 (((bs s).getD t 0).toNat : Int)) := fun t h => bytesRow_at s _ t h
  generalize bytesRow s (grownCap w s.size 0 5) = C at *
  generalize grownCap w s.size 0 5 = cap at *
  have HC := Lib.hid hC
  clear hC
  go_enter Tryd.func43, Tryd.ntmps43
  go_wp2_with fail
  go_loopw [10, 4, 5] (fun vi _ _ wr => ∃ i : Nat, i ≤ s.size ∧ vi = .int .i64 i ∧ Hid (∀ t, t < s.size → wr.cell? ⟨w.heap.size, t, none⟩ = some (.int .u8 ((mixAt (bs s) i t).toNat : Int)) ∧ wr.frozen? ⟨w.heap.size, t, none⟩ = false) ∧ Hid (Below w.heap.size w wr)) (fun vi _ _ _ => s.size - (RowKit.intOf vi).toNat)
  case atStart =>
    refine ⟨0, Nat.zero_le _, rfl, ?_, ?_⟩
    · intro t ht
      have h1 : ((w.alloc (.cells C 5 (C.size, C.size + 1))).drew).cell? ⟨w.heap.size, t, none⟩ = C[t]? := World.cell?_alloc_mark w C 5 _ t
      have hlt : t < C.size := by
        refine Nat.lt_of_not_le fun hle => ?_
        have := HC.out t ht
        rw [Array.getElem?_eq_none hle] at this
        cases this
      have h2 : ((w.alloc (.cells C 5 (C.size, C.size + 1))).drew).frozen? ⟨w.heap.size, t, none⟩ = _ := World.frozen?_alloc_mark w C 5 _ _ t
      refine ⟨by rw [h1, HC.out t ht]; rfl, ?_⟩
      rw [h2]
      simp; omega
    · exact ((Below.refl _ _).alloc (Nat.le_refl _) _).drew
  case round =>
    obtain ⟨i, hi, rfl, HM, HB⟩ := hrel
    rename World => W
    by_cases hlt : i < s.size
    · obtain ⟨hc, hf⟩ := HM.out i hlt
      have e : mixAt (bs s) i i = (bs s).getD i 0 := by unfold mixAt; rw [if_neg (by omega)]
      rw [e] at hc
      have HM2 : Hid (∀ t, t < s.size → (W.setCell ⟨w.heap.size, i, none⟩ (.int .u8 ((lowB ((bs s).getD i 0)).toNat : Int))).cell? ⟨w.heap.size, t, none⟩ = some (.int .u8 ((mixAt (bs s) (i + 1) t).toNat : Int)) ∧ (W.setCell ⟨w.heap.size, i, none⟩ (.int .u8 ((lowB ((bs s).getD i 0)).toNat : Int))).frozen? ⟨w.heap.size, t, none⟩ = false) := by
        intro t ht
        obtain ⟨h1, h2⟩ := HM.out t ht
        refine ⟨?_, by rw [World.frozen?_setCell]; exact h2⟩
        by_cases hti : t = i
        · subst hti
          rw [World.cell?_setCell_same _ _ _ hc]
          unfold mixAt; rw [if_pos (by omega)]
        · rw [World.cell?_setCell_other (w := W) (a := ⟨w.heap.size, i, none⟩) (b := ⟨w.heap.size, t, none⟩) (h := by intro e; injection e with _ e2; exact hti e2.symm), h1]
          have : mixAt (bs s) i t = mixAt (bs s) (i + 1) t := by
            unfold mixAt
            by_cases h3 : t < i
            · rw [if_pos h3, if_pos (by omega)]
            · rw [if_neg h3, if_neg (by omega)]
          rw [this]
      have HB2 := Lib.hid (HB.out.setCell (p := ⟨w.heap.size, i, none⟩) (Nat.le_refl _) (.int .u8 ((lowB ((bs s).getD i 0)).toNat : Int)))
      generalize (bs s).getD i 0 = c at *
      go_wp2_with fail
      refine (lower_any c W).mono ?_
      rintro e w' ⟨rfl, rfl⟩
      go_wp2_with fail
      go_roundw
      case rel => exact ⟨i + 1, by omega, by go_num, HM2, HB2⟩
      case measure => simp [RowKit.intOf]; omega
    · have hlen : (lowL (bs s)).length = s.size := by rw [length_lowL, HL.out]
      have hback := run_convert_bytes_back (P := Tryd.prog) W 68 9 5 ⟨w.heap.size, 0, none⟩ cap (lowL (bs s)) Tryd.underlying68 Tryd.underlying5 Tryd.underlying9 (fun j hj => by
        have hj' : j < s.size := by rw [hlen] at hj; exact hj
        have h1 := (HM.out j hj').1
        have e : mixAt (bs s) i j = (lowL (bs s))[j] := by
          have hjl : j < (bs s).length := by rw [HL.out]; exact hj'
          have e2 : (lowL (bs s))[j] = lowB ((bs s)[j]'hjl) := by simp [lowL]
          unfold mixAt
          rw [if_pos (by omega), e2]
          simp [List.getD, hjl]
        rw [e] at h1
        by_cases hj0 : j = 0
        · subst hj0; simpa [Addr.add] using h1
        · simpa [Addr.add, hj0] using h1)
      rw [hlen] at hback
      go_wp2_with fail
      go_ret
      exact ⟨rfl, HB.out⟩
end Tk
end Go.Proofs.YtcddkeekabafgaaDoor
