/- RcD, put together. -/
import Derived.Test.YtnbipbeeengiaaaGreatDoorQP
namespace Go.Proofs.YtnbipbeeengiaaaGreatDoor
open Go.RowKit
namespace Tk

theorem dirOf_has (p : Bs) (d : Dir) (h : d ∈ dirOf p) : d.2.2 = false → d.2.1 = [] := by
  unfold dirOf at h
  split at h
  · rw [List.mem_singleton] at h
    subst h
    unfold cutL
    split
    · intro h; cases h
    · intro _
      show unqT [] = []
      decide
  · simp at h
theorem dirs_has (l : List Bs) (d : Dir) (h : d ∈ dirsL l) : d.2.2 = false → d.2.1 = [] := by
  unfold dirsL dirsV at h
  simp only [List.mem_flatMap] at h
  obtain ⟨v, -, p, -, hd⟩ := h
  exact dirOf_has p d hd
/-- a list of directives lies at v -/
def IsDirs (w : World) (v : Value) (D : List Dir) : Prop :=
  ∃ (a : Option Addr) (c : Nat), v = .slice a D.length c ∧ ∀ j d, D[j]? = some d → ∃ b o, a = some ⟨b, o, none⟩ ∧ w.cell? ⟨b, o + j * 3, none⟩ = some (.string (mkS d.1)) ∧ w.cell? ⟨b, o + j * 3 + 1, none⟩ = some (.string (mkS d.2.1)) ∧ w.cell? ⟨b, o + j * 3 + 2, none⟩ = some (.bool d.2.2)
theorem dcells_get : ∀ (l : List Dir) (j : Nat) (d : Dir), l[j]? = some d → (dcells l)[j * 3]? = some (.string (mkS d.1)) ∧ (dcells l)[j * 3 + 1]? = some (.string (mkS d.2.1)) ∧ (dcells l)[j * 3 + 2]? = some (.bool d.2.2)
  | [], j, f, h => by simp at h
  | g :: t, 0, f, h => by
    simp at h; subst h
    exact ⟨by simp [dcells], by simp [dcells], by simp [dcells]⟩
  | g :: t, j + 1, f, h => by
    have := dcells_get t j f (by simpa using h)
    unfold dcells at *
    rw [List.flatMap_cons, show (j + 1) * 3 = j * 3 + 3 by omega]
    refine ⟨?_, ?_, ?_⟩
    · simpa using this.1
    · simpa using this.2.1
    · simpa using this.2.2
theorem isDirs_own {w : World} {base : Nat} {v : Value} {D : List Dir} (h : w.ownsRow base 71 3 v D.length (dcells D)) : IsDirs w v D := by
  rcases h.2 with ⟨hv, hn⟩ | ⟨g, cap, cur, hv, hb, hg, hcap, -⟩
  · exact ⟨none, 0, by rw [hv, hn], fun j t hj => by simp [List.eq_nil_of_length_eq_zero hn] at hj⟩
  · refine ⟨some ⟨g, 0, none⟩, cap, hv, fun j f hj => ⟨g, 0, rfl, ?_, ?_, ?_⟩⟩
    · have := h.cells (g := g) (by rw [hv]; rfl) (j * 3) _ (dcells_get D j f hj).1
      rw [Go.WideShapes.add_plain] at this
      exact this
    · have := h.cells (g := g) (by rw [hv]; rfl) (j * 3 + 1) _ (dcells_get D j f hj).2.1
      rw [Go.WideShapes.add_plain, ← Nat.add_assoc] at this
      exact this
    · have := h.cells (g := g) (by rw [hv]; rfl) (j * 3 + 2) _ (dcells_get D j f hj).2.2
      rw [Go.WideShapes.add_plain, ← Nat.add_assoc] at this
      exact this
theorem foldC_take (D : List Dir) (i : Nat) (h : i < D.length) (c : Ctl) : foldC c (D.take (i + 1)) = setC (foldC c (D.take i)) (D.getD i ([], [], false)) := by
  rw [List.take_succ_eq_append_getElem h, fold_app, foldC_one]
  simp [List.getD, h]
theorem setC_no (c : Ctl) (n t : Bs) (h : Bool) (h0 : ¬ n = dn0) (h1 : ¬ n = dn1) (h2 : ¬ n = dn2) (h3 : ¬ n = dn3) (h4 : ¬ n = dn4) (h5 : ¬ n = dn5) (h6 : ¬ n = dn6) (h7 : ¬ n = dn7) (h8 : ¬ n = dn8) (h9 : ¬ n = dn9) (h10 : ¬ n = dn10) (h11 : ¬ n = dn11) (h12 : ¬ n = dn12) (h13 : ¬ n = dn13) (h14 : ¬ n = dn14) : setC c (n, t, h) = c := by
  unfold setC
  simp [*]

set_option maxHeartbeats 32000000 in
set_option maxRecDepth 100000 in
theorem rparse10_any (v0 : Value) (L : List Bs) (w : World) (hs : IsStrs w v0 L) (hz : ∀ x ∈ L, x.length ≤ 1000000) (hl : L.length ≤ 1000) (hn : Lib.lens L ≤ 1000000) :
    Calls Tryz.prog 35 #[v0] w (CtlPost (parseL L) w) := by
  have HEa : Hid (∀ W, Below w.heap.size w W → Calls Tryz.prog 32 #[v0] W (RDirs (dirsL L) W)) := fun W hb => reach10_any v0 L W (isStrsC_below hs hb) hz hl hn
  unfold RDirs at HEa
  have HNo : Hid (∀ W : World, Calls Tryz.prog 37 #[] W fun e w' => e = .returned (.agg (ctlA noneC)) ∧ Below W.heap.size W w') := fun W => rcnone_any W
  have HNu : Hid (∀ (d : Dir) (W : World), d ∈ dirsL L → Calls Tryz.prog 68 #[.agg #[.string (mkS d.1), .string (mkS d.2.1), .bool d.2.2]] W fun e w' => e = .returned (.int .i64 (secN d.2.1)) ∧ Below W.heap.size W w') := fun d W hd => rcnumber_any d W (dirsL_bound L 1000000 hz d hd).2 (dirs_has L d hd)
  have HLe : Hid (∀ (a b : Int) (W : World), vNc a → vNc b → Calls Tryz.prog 69 #[.int .i64 a, .int .i64 b] W fun e w' => e = .returned (.int .i64 (leastI a b)) ∧ W = w') := fun a b W ha hb => by
    have h := rcleast_any a b W
    rw [leastR_eq ha hb] at h
    exact h
  have HPr := Lib.hid (show parseL L = foldC noneC (dirsL L) from rfl)
  have HDl : Hid ((dirsL L).length ≤ 1001000) := by
    have := dirsL_len L
    show _ ≤ _
    omega
  have hB := Bx.new w 63 (ctlA zeroC)
  have hb := below_allocC w (.cells (ctlA zeroC) 63)
  have HB0 := Lib.hid hb
  have HR0 := Lib.hid hB
  have hsz : (w.alloc (.cells (ctlA zeroC) 63)).heap.size = w.heap.size + 1 := by simp
  generalize parseL L = Cf at *
  generalize dirsL L = D at *
  clear hs hz hl hn hB hb
  go_enter Tryz.func35, Tryz.ntmps35
  go_wp2_with fail
  have e0 : w.alloc (.cells (ctlA zeroC) 63) = w.alloc (.cells #[.int .i64 0, .int .i64 0, .int .i64 0, .int .i64 0, .int .i64 0, .int .i64 0, .bool false, .bool false, .bool false, .bool false, .bool false, .bool false, .bool false, .bool false, .bool false] 63) := rfl
  rw [e0] at HB0 HR0 hsz
  clear e0
  generalize w.alloc (.cells #[.int .i64 0, .int .i64 0, .int .i64 0, .int .i64 0, .int .i64 0, .int .i64 0, .bool false, .bool false, .bool false, .bool false, .bool false, .bool false, .bool false, .bool false, .bool false] 63) = W0 at *
  refine (HNo.out _).mono ?_
  rintro e w1 ⟨rfl, hb1⟩
  have hx0 : Bx (w1.alloc (.cells #[.int .i64 0, .int .i64 0, .int .i64 0, .int .i64 0, .int .i64 0, .int .i64 0, .bool false, .bool false, .bool false, .bool false, .bool false, .bool false, .bool false, .bool false, .bool false] 63)) w1.heap.size 63 (ctlA zeroC) := Bx.new w1 63 (ctlA zeroC)
  have b2 := below_setRow (below_allocC w1 (.cells #[.int .i64 0, .int .i64 0, .int .i64 0, .int .i64 0, .int .i64 0, .int .i64 0, .bool false, .bool false, .bool false, .bool false, .bool false, .bool false, .bool false, .bool false, .bool false] 63)) (ctlA noneC)
  have hb2 := hb1.trans (b2.mono hb1.size)
  have HB1 := Lib.hid (HB0.out.trans (hb2.mono HB0.out.size))
  have HR1 := Lib.hid (HR0.out.later hb2)
  have HX1 := Lib.hid (hx0.row (cs := ctlA noneC))
  have hg1 : w.heap.size < w1.heap.size := by have := hb1.size; omega
  have HG1 := Lib.hid hg1
  have HX0 := Lib.hid hx0
  clear hb1 hb2 hx0 hg1 hsz HB0 HR0 b2
  go_wp2_with (refine wpListC_store_row rfl _ _ _ rfl w1.heap.size _ (ctlA zeroC) (ctlA noneC) rfl rfl HX0.out (ctl_size _) rfl (ctl_one _) ?_)
  clear HX0
  generalize (w1.alloc (.cells #[.int .i64 0, .int .i64 0, .int .i64 0, .int .i64 0, .int .i64 0, .int .i64 0, .bool false, .bool false, .bool false, .bool false, .bool false, .bool false, .bool false, .bool false, .bool false] 63)).setRow w1.heap.size (ctlA noneC) = W2 at *
  generalize w1.heap.size = gc at *
  refine (HEa.out _ HB1.out).mono ?_
  rintro e w3 ⟨vd, rfl, hod, hb3⟩
  have HB3 := Lib.hid (HB1.out.trans (hb3.mono HB1.out.size))
  have HR3 := Lib.hid (HR1.out.later hb3)
  have HX3 := Lib.hid (HX1.out.later hb3)
  have HD3 := Lib.hid hod
  have HW2 := Lib.hid (show w.heap.size ≤ W2.heap.size from HB1.out.size)
  obtain ⟨ad, cd, rfl⟩ : ∃ a c, vd = .slice a D.length c := by obtain ⟨a, c, h, -⟩ := isDirs_own hod; exact ⟨a, c, h⟩
  have v0c : vC (foldC noneC (D.take 0)) := v_none
  clear hb3 hod HB1 HR1 HX1 HEa
  go_wp2_with fail
  go_loopw [5, 6] (fun v5 _ wr => ∃ i : Nat, i ≤ D.length ∧ v5 = .int .i64 i ∧ Hid (Below w.heap.size w wr) ∧ Hid (Bx wr w.heap.size 63 (ctlA zeroC)) ∧ Hid (Bx wr gc 63 (ctlA (foldC noneC (D.take i)))) ∧ Hid (wr.ownsRow W2.heap.size 71 3 (.slice ad D.length cd) D.length (dcells D))) (fun v5 _ _ => D.length - (RowKit.intOf v5).toNat)
  case atStart => exact ⟨0, Nat.zero_le _, rfl, HB3, HR3, HX3, HD3⟩
  case round =>
    obtain ⟨i, hi, rfl, HB, HR, HX, HD⟩ := hrel
    rename World => W
    have gD : (D.length : Int) ≤ 1001000 := by have := HDl.out; omega
    by_cases hlt : i < D.length
    · have g0 : (0 : Int) ≤ (i : Int) := by omega
      have g1 : (i : Int) < (D.length : Int) := by omega
      have hfs := foldC_take D i hlt noneC
      have hvc : vC (foldC noneC (D.take i)) := v_fold _ v_none
      obtain ⟨a', c', he, hcs⟩ := isDirs_own HD.out
      injection he with he1 he9 he2
      clear he9
      subst he1 he2
      obtain ⟨bd, od, rfl, e1, e2, e3⟩ := hcs i (D.getD i ([], [], false)) (by simp [List.getD, hlt])
      have HNd := Lib.hid (fun W => HNu.out (D.getD i ([], [], false)) W (by simp [List.getD, hlt]))
      have hsv := secN_v (D.getD i ([], [], false)).2.1
      clear hcs
      generalize D.getD i ([], [], false) = d at *
      obtain ⟨nm, t, h⟩ := d
      simp only at e1 e2 e3 HNd hsv
      generalize hC : foldC noneC (D.take i) = c at *
      clear hC
      obtain ⟨n, hn⟩ : ∃ n, n = secN t := ⟨_, rfl⟩
      rw [← hn] at HNd hsv
      have HN := Lib.hid hn
      have HV := Lib.hid hvc
      have HSv := Lib.hid hsv
      have HFs := Lib.hid hfs
      clear hn hvc hsv hfs
      go_wp2_with fail
      refine (HNd.out _).mono ?_
      rintro e w4 ⟨rfl, hb4⟩
      have HB4 := Lib.hid (HB.out.trans (hb4.mono HB.out.size))
      have HR4 := Lib.hid (HR.out.later hb4)
      have HX4 := Lib.hid (HX.out.later hb4)
      have HD4 := Lib.hid (own_laterD HD.out hb4)
      have f1 : w4.cell? ⟨bd, od + i * 3, none⟩ = some (.string (mkS nm)) := (hb4.cell (p := ⟨bd, od + i * 3, none⟩) (cell_in (p := ⟨bd, od + i * 3, none⟩) e1)).trans e1
      have f3 : w4.cell? ⟨bd, od + i * 3 + 2, none⟩ = some (.bool h) := (hb4.cell (p := ⟨bd, od + i * 3 + 2, none⟩) (cell_in (p := ⟨bd, od + i * 3 + 2, none⟩) e3)).trans e3
      have HL := Lib.hid HLe.out
      clear e1 e2 e3 hb4 HB HR HX HD HNd HNu
      have hgc : w.heap.size ≤ gc := by have := HG1.out; omega
      have hne : some w.heap.size ≠ some gc := by intro e; injection e with e; have := HG1.out; omega
      have HGc := Lib.hid (And.intro hgc hne)
      clear hgc hne
      by_cases h0 : nm = dn0
      · have b0 : ((mkS nm).toList == ([109, 97, 120, 45, 97, 103, 101] : List UInt8)) = true := by rw [toList_bs, bs_mkS, h0]; decide
        have HSet : Hid (setC c (nm, t, h) = { c with a0 := leastI c.a0 (max 0 n) }) := by show _ = _; rw [h0, setC0, HN.out, Int.max_comm]; rfl
        have q0 : w4.cell? ⟨gc, 0, none⟩ = some (.int .i64 c.a0) := HX4.out.cell 0 _ rfl
        have q1 : w4.frozen? ⟨gc, 0, none⟩ = false := HX4.out.frozen 0
        have hm : vNc (max 0 n) := by have := maxN_v HSv.out; rw [Int.max_comm] at this; exact this
        have HLk := Lib.hid (fun W => HL.out c.a0 (max 0 n) W HV.out.1 hm)
        clear hm h0
        go_wp2_with fail
        refine (HLk.out _).mono ?_
        rintro e w5 ⟨rfl, rfl⟩
        go_wp2_with fail
        have HXn : Hid (Bx (w4.setCell ⟨gc, 0, none⟩ (.int .i64 (leastI c.a0 (max 0 n)))) gc 63 (ctlA (foldC noneC (D.take (i + 1))))) := by
          show Bx _ _ _ _
          rw [HFs.out, HSet.out]
          skip
          exact HX4.out.set 0 (.int .i64 (leastI c.a0 (max 0 n)))
        have HBn := Lib.hid (HB4.out.setCell (p := ⟨gc, 0, none⟩) HGc.out.1 (.int .i64 (leastI c.a0 (max 0 n))))
        have HRn := Lib.hid (HR4.out.grown (grown_setC w4 gc 0 (.int .i64 (leastI c.a0 (max 0 n)))) HGc.out.2)
        have HDn := Lib.hid (HD4.out.kept (grown_setC w4 gc 0 (.int .i64 (leastI c.a0 (max 0 n)))) (.inr (bx_not_row HX4.out HD4.out (by decide))))
        exact ⟨⟨i + 1, by omega, by go_num, HBn, HRn, HXn, HDn⟩, by simp [RowKit.intOf]; omega⟩
      · have b0 : ((mkS nm).toList == ([109, 97, 120, 45, 97, 103, 101] : List UInt8)) = false := by rw [toList_bs, bs_mkS, beq_eq_false_iff_ne]; exact h0
        by_cases h1 : nm = dn1
        · have b1 : ((mkS nm).toList == ([115, 45, 109, 97, 120, 97, 103, 101] : List UInt8)) = true := by rw [toList_bs, bs_mkS, h1]; decide
          have HSet : Hid (setC c (nm, t, h) = { c with a1 := leastI c.a1 (max 0 n) }) := by show _ = _; rw [h1, setC1, HN.out, Int.max_comm]; rfl
          have q0 : w4.cell? ⟨gc, 1, none⟩ = some (.int .i64 c.a1) := HX4.out.cell 1 _ rfl
          have q1 : w4.frozen? ⟨gc, 1, none⟩ = false := HX4.out.frozen 1
          have hm : vNc (max 0 n) := by have := maxN_v HSv.out; rw [Int.max_comm] at this; exact this
          have HLk := Lib.hid (fun W => HL.out c.a1 (max 0 n) W HV.out.2.1 hm)
          clear hm h0 h1
          go_wp2_with fail
          refine (HLk.out _).mono ?_
          rintro e w5 ⟨rfl, rfl⟩
          go_wp2_with fail
          have HXn : Hid (Bx (w4.setCell ⟨gc, 1, none⟩ (.int .i64 (leastI c.a1 (max 0 n)))) gc 63 (ctlA (foldC noneC (D.take (i + 1))))) := by
            show Bx _ _ _ _
            rw [HFs.out, HSet.out]
            skip
            exact HX4.out.set 1 (.int .i64 (leastI c.a1 (max 0 n)))
          have HBn := Lib.hid (HB4.out.setCell (p := ⟨gc, 1, none⟩) HGc.out.1 (.int .i64 (leastI c.a1 (max 0 n))))
          have HRn := Lib.hid (HR4.out.grown (grown_setC w4 gc 1 (.int .i64 (leastI c.a1 (max 0 n)))) HGc.out.2)
          have HDn := Lib.hid (HD4.out.kept (grown_setC w4 gc 1 (.int .i64 (leastI c.a1 (max 0 n)))) (.inr (bx_not_row HX4.out HD4.out (by decide))))
          exact ⟨⟨i + 1, by omega, by go_num, HBn, HRn, HXn, HDn⟩, by simp [RowKit.intOf]; omega⟩
        · have b1 : ((mkS nm).toList == ([115, 45, 109, 97, 120, 97, 103, 101] : List UInt8)) = false := by rw [toList_bs, bs_mkS, beq_eq_false_iff_ne]; exact h1
          by_cases h2 : nm = dn2
          · have b2 : ((mkS nm).toList == ([109, 97, 120, 45, 115, 116, 97, 108, 101] : List UInt8)) = true := by rw [toList_bs, bs_mkS, h2]; decide
            have HSet : Hid (setC c (nm, t, h) = { c with a2 := max c.a2 (staleN t h) }) := by show _ = _; rw [h2, setC2]; rfl
            have q0 : w4.cell? ⟨gc, 2, none⟩ = some (.int .i64 c.a2) := HX4.out.cell 2 _ rfl
            have q1 : w4.frozen? ⟨gc, 2, none⟩ = false := HX4.out.frozen 2
            clear h0 h1 h2
            cases h
            · go_wp2_with fail
              have HXn : Hid (Bx (w4.setCell ⟨gc, 2, none⟩ (.int .i64 (max c.a2 2147483648))) gc 63 (ctlA (foldC noneC (D.take (i + 1))))) := by
                show Bx _ _ _ _
                rw [HFs.out, HSet.out]
                rw [show staleN t false = 2147483648 from rfl]
                exact HX4.out.set 2 (.int .i64 (max c.a2 2147483648))
              have HBn := Lib.hid (HB4.out.setCell (p := ⟨gc, 2, none⟩) HGc.out.1 (.int .i64 (max c.a2 2147483648)))
              have HRn := Lib.hid (HR4.out.grown (grown_setC w4 gc 2 (.int .i64 (max c.a2 2147483648))) HGc.out.2)
              have HDn := Lib.hid (HD4.out.kept (grown_setC w4 gc 2 (.int .i64 (max c.a2 2147483648))) (.inr (bx_not_row HX4.out HD4.out (by decide))))
              exact ⟨⟨i + 1, by omega, by go_num, HBn, HRn, HXn, HDn⟩, by simp [RowKit.intOf]; omega⟩
            · go_wp2_with fail
              have HXn : Hid (Bx (w4.setCell ⟨gc, 2, none⟩ (.int .i64 (max c.a2 n))) gc 63 (ctlA (foldC noneC (D.take (i + 1))))) := by
                show Bx _ _ _ _
                rw [HFs.out, HSet.out]
                rw [show staleN t true = n from HN.out.symm]
                exact HX4.out.set 2 (.int .i64 (max c.a2 n))
              have HBn := Lib.hid (HB4.out.setCell (p := ⟨gc, 2, none⟩) HGc.out.1 (.int .i64 (max c.a2 n)))
              have HRn := Lib.hid (HR4.out.grown (grown_setC w4 gc 2 (.int .i64 (max c.a2 n))) HGc.out.2)
              have HDn := Lib.hid (HD4.out.kept (grown_setC w4 gc 2 (.int .i64 (max c.a2 n))) (.inr (bx_not_row HX4.out HD4.out (by decide))))
              exact ⟨⟨i + 1, by omega, by go_num, HBn, HRn, HXn, HDn⟩, by simp [RowKit.intOf]; omega⟩
          · have b2 : ((mkS nm).toList == ([109, 97, 120, 45, 115, 116, 97, 108, 101] : List UInt8)) = false := by rw [toList_bs, bs_mkS, beq_eq_false_iff_ne]; exact h2
            by_cases h3 : nm = dn3
            · have b3 : ((mkS nm).toList == ([109, 105, 110, 45, 102, 114, 101, 115, 104] : List UInt8)) = true := by rw [toList_bs, bs_mkS, h3]; decide
              have HSet : Hid (setC c (nm, t, h) = { c with a3 := leastI c.a3 n }) := by show _ = _; rw [h3, setC3, HN.out]; rfl
              have q0 : w4.cell? ⟨gc, 3, none⟩ = some (.int .i64 c.a3) := HX4.out.cell 3 _ rfl
              have q1 : w4.frozen? ⟨gc, 3, none⟩ = false := HX4.out.frozen 3
              have HLk := Lib.hid (fun W => HL.out c.a3 n W HV.out.2.2.2.1 HSv.out)
              clear h0 h1 h2 h3
              go_wp2_with fail
              refine (HLk.out _).mono ?_
              rintro e w5 ⟨rfl, rfl⟩
              go_wp2_with fail
              have HXn : Hid (Bx (w4.setCell ⟨gc, 3, none⟩ (.int .i64 (leastI c.a3 n))) gc 63 (ctlA (foldC noneC (D.take (i + 1))))) := by
                show Bx _ _ _ _
                rw [HFs.out, HSet.out]
                skip
                exact HX4.out.set 3 (.int .i64 (leastI c.a3 n))
              have HBn := Lib.hid (HB4.out.setCell (p := ⟨gc, 3, none⟩) HGc.out.1 (.int .i64 (leastI c.a3 n)))
              have HRn := Lib.hid (HR4.out.grown (grown_setC w4 gc 3 (.int .i64 (leastI c.a3 n))) HGc.out.2)
              have HDn := Lib.hid (HD4.out.kept (grown_setC w4 gc 3 (.int .i64 (leastI c.a3 n))) (.inr (bx_not_row HX4.out HD4.out (by decide))))
              exact ⟨⟨i + 1, by omega, by go_num, HBn, HRn, HXn, HDn⟩, by simp [RowKit.intOf]; omega⟩
            · have b3 : ((mkS nm).toList == ([109, 105, 110, 45, 102, 114, 101, 115, 104] : List UInt8)) = false := by rw [toList_bs, bs_mkS, beq_eq_false_iff_ne]; exact h3
              by_cases h4 : nm = dn4
              · have b4 : ((mkS nm).toList == ([115, 116, 97, 108, 101, 45, 119, 104, 105, 108, 101, 45, 114, 101, 118, 97, 108, 105, 100, 97, 116, 101] : List UInt8)) = true := by rw [toList_bs, bs_mkS, h4]; decide
                have HSet : Hid (setC c (nm, t, h) = { c with a4 := leastI c.a4 n }) := by show _ = _; rw [h4, setC4, HN.out]; rfl
                have q0 : w4.cell? ⟨gc, 4, none⟩ = some (.int .i64 c.a4) := HX4.out.cell 4 _ rfl
                have q1 : w4.frozen? ⟨gc, 4, none⟩ = false := HX4.out.frozen 4
                have HLk := Lib.hid (fun W => HL.out c.a4 n W HV.out.2.2.2.2.1 HSv.out)
                clear h0 h1 h2 h3 h4
                go_wp2_with fail
                refine (HLk.out _).mono ?_
                rintro e w5 ⟨rfl, rfl⟩
                go_wp2_with fail
                have HXn : Hid (Bx (w4.setCell ⟨gc, 4, none⟩ (.int .i64 (leastI c.a4 n))) gc 63 (ctlA (foldC noneC (D.take (i + 1))))) := by
                  show Bx _ _ _ _
                  rw [HFs.out, HSet.out]
                  skip
                  exact HX4.out.set 4 (.int .i64 (leastI c.a4 n))
                have HBn := Lib.hid (HB4.out.setCell (p := ⟨gc, 4, none⟩) HGc.out.1 (.int .i64 (leastI c.a4 n)))
                have HRn := Lib.hid (HR4.out.grown (grown_setC w4 gc 4 (.int .i64 (leastI c.a4 n))) HGc.out.2)
                have HDn := Lib.hid (HD4.out.kept (grown_setC w4 gc 4 (.int .i64 (leastI c.a4 n))) (.inr (bx_not_row HX4.out HD4.out (by decide))))
                exact ⟨⟨i + 1, by omega, by go_num, HBn, HRn, HXn, HDn⟩, by simp [RowKit.intOf]; omega⟩
              · have b4 : ((mkS nm).toList == ([115, 116, 97, 108, 101, 45, 119, 104, 105, 108, 101, 45, 114, 101, 118, 97, 108, 105, 100, 97, 116, 101] : List UInt8)) = false := by rw [toList_bs, bs_mkS, beq_eq_false_iff_ne]; exact h4
                by_cases h5 : nm = dn5
                · have b5 : ((mkS nm).toList == ([115, 116, 97, 108, 101, 45, 105, 102, 45, 101, 114, 114, 111, 114] : List UInt8)) = true := by rw [toList_bs, bs_mkS, h5]; decide
                  have HSet : Hid (setC c (nm, t, h) = { c with a5 := leastI c.a5 n }) := by show _ = _; rw [h5, setC5, HN.out]; rfl
                  have q0 : w4.cell? ⟨gc, 5, none⟩ = some (.int .i64 c.a5) := HX4.out.cell 5 _ rfl
                  have q1 : w4.frozen? ⟨gc, 5, none⟩ = false := HX4.out.frozen 5
                  have HLk := Lib.hid (fun W => HL.out c.a5 n W HV.out.2.2.2.2.2 HSv.out)
                  clear h0 h1 h2 h3 h4 h5
                  go_wp2_with fail
                  refine (HLk.out _).mono ?_
                  rintro e w5 ⟨rfl, rfl⟩
                  go_wp2_with fail
                  have HXn : Hid (Bx (w4.setCell ⟨gc, 5, none⟩ (.int .i64 (leastI c.a5 n))) gc 63 (ctlA (foldC noneC (D.take (i + 1))))) := by
                    show Bx _ _ _ _
                    rw [HFs.out, HSet.out]
                    skip
                    exact HX4.out.set 5 (.int .i64 (leastI c.a5 n))
                  have HBn := Lib.hid (HB4.out.setCell (p := ⟨gc, 5, none⟩) HGc.out.1 (.int .i64 (leastI c.a5 n)))
                  have HRn := Lib.hid (HR4.out.grown (grown_setC w4 gc 5 (.int .i64 (leastI c.a5 n))) HGc.out.2)
                  have HDn := Lib.hid (HD4.out.kept (grown_setC w4 gc 5 (.int .i64 (leastI c.a5 n))) (.inr (bx_not_row HX4.out HD4.out (by decide))))
                  exact ⟨⟨i + 1, by omega, by go_num, HBn, HRn, HXn, HDn⟩, by simp [RowKit.intOf]; omega⟩
                · have b5 : ((mkS nm).toList == ([115, 116, 97, 108, 101, 45, 105, 102, 45, 101, 114, 114, 111, 114] : List UInt8)) = false := by rw [toList_bs, bs_mkS, beq_eq_false_iff_ne]; exact h5
                  by_cases h6 : nm = dn6
                  · have b6 : ((mkS nm).toList == ([110, 111, 45, 99, 97, 99, 104, 101] : List UInt8)) = true := by rw [toList_bs, bs_mkS, h6]; decide
                    have HSet : Hid (setC c (nm, t, h) = set6 c t h) := by show _ = _; rw [h6]; exact setC6 c t h
                    have q0 : w4.cell? ⟨gc, 6, none⟩ = some (.bool c.b0) := HX4.out.cell 6 _ rfl
                    have q1 : w4.frozen? ⟨gc, 6, none⟩ = false := HX4.out.frozen 6
                    clear h0 h1 h2 h3 h4 h5 h6
                    go_wp2_with fail
                    have HXn : Hid (Bx (w4.setCell ⟨gc, 6, none⟩ (.bool true)) gc 63 (ctlA (foldC noneC (D.take (i + 1))))) := by
                      show Bx _ _ _ _
                      rw [HFs.out, HSet.out]
                      skip
                      exact HX4.out.set 6 (.bool true)
                    have HBn := Lib.hid (HB4.out.setCell (p := ⟨gc, 6, none⟩) HGc.out.1 (.bool true))
                    have HRn := Lib.hid (HR4.out.grown (grown_setC w4 gc 6 (.bool true)) HGc.out.2)
                    have HDn := Lib.hid (HD4.out.kept (grown_setC w4 gc 6 (.bool true)) (.inr (bx_not_row HX4.out HD4.out (by decide))))
                    exact ⟨⟨i + 1, by omega, by go_num, HBn, HRn, HXn, HDn⟩, by simp [RowKit.intOf]; omega⟩
                  · have b6 : ((mkS nm).toList == ([110, 111, 45, 99, 97, 99, 104, 101] : List UInt8)) = false := by rw [toList_bs, bs_mkS, beq_eq_false_iff_ne]; exact h6
                    by_cases h7 : nm = dn7
                    · have b7 : ((mkS nm).toList == ([110, 111, 45, 115, 116, 111, 114, 101] : List UInt8)) = true := by rw [toList_bs, bs_mkS, h7]; decide
                      have HSet : Hid (setC c (nm, t, h) = set7 c t h) := by show _ = _; rw [h7]; exact setC7 c t h
                      have q0 : w4.cell? ⟨gc, 7, none⟩ = some (.bool c.b1) := HX4.out.cell 7 _ rfl
                      have q1 : w4.frozen? ⟨gc, 7, none⟩ = false := HX4.out.frozen 7
                      clear h0 h1 h2 h3 h4 h5 h6 h7
                      go_wp2_with fail
                      have HXn : Hid (Bx (w4.setCell ⟨gc, 7, none⟩ (.bool true)) gc 63 (ctlA (foldC noneC (D.take (i + 1))))) := by
                        show Bx _ _ _ _
                        rw [HFs.out, HSet.out]
                        skip
                        exact HX4.out.set 7 (.bool true)
                      have HBn := Lib.hid (HB4.out.setCell (p := ⟨gc, 7, none⟩) HGc.out.1 (.bool true))
                      have HRn := Lib.hid (HR4.out.grown (grown_setC w4 gc 7 (.bool true)) HGc.out.2)
                      have HDn := Lib.hid (HD4.out.kept (grown_setC w4 gc 7 (.bool true)) (.inr (bx_not_row HX4.out HD4.out (by decide))))
                      exact ⟨⟨i + 1, by omega, by go_num, HBn, HRn, HXn, HDn⟩, by simp [RowKit.intOf]; omega⟩
                    · have b7 : ((mkS nm).toList == ([110, 111, 45, 115, 116, 111, 114, 101] : List UInt8)) = false := by rw [toList_bs, bs_mkS, beq_eq_false_iff_ne]; exact h7
                      by_cases h8 : nm = dn8
                      · have b8 : ((mkS nm).toList == ([110, 111, 45, 116, 114, 97, 110, 115, 102, 111, 114, 109] : List UInt8)) = true := by rw [toList_bs, bs_mkS, h8]; decide
                        have HSet : Hid (setC c (nm, t, h) = set8 c t h) := by show _ = _; rw [h8]; exact setC8 c t h
                        have q0 : w4.cell? ⟨gc, 8, none⟩ = some (.bool c.b2) := HX4.out.cell 8 _ rfl
                        have q1 : w4.frozen? ⟨gc, 8, none⟩ = false := HX4.out.frozen 8
                        clear h0 h1 h2 h3 h4 h5 h6 h7 h8
                        go_wp2_with fail
                        have HXn : Hid (Bx (w4.setCell ⟨gc, 8, none⟩ (.bool true)) gc 63 (ctlA (foldC noneC (D.take (i + 1))))) := by
                          show Bx _ _ _ _
                          rw [HFs.out, HSet.out]
                          skip
                          exact HX4.out.set 8 (.bool true)
                        have HBn := Lib.hid (HB4.out.setCell (p := ⟨gc, 8, none⟩) HGc.out.1 (.bool true))
                        have HRn := Lib.hid (HR4.out.grown (grown_setC w4 gc 8 (.bool true)) HGc.out.2)
                        have HDn := Lib.hid (HD4.out.kept (grown_setC w4 gc 8 (.bool true)) (.inr (bx_not_row HX4.out HD4.out (by decide))))
                        exact ⟨⟨i + 1, by omega, by go_num, HBn, HRn, HXn, HDn⟩, by simp [RowKit.intOf]; omega⟩
                      · have b8 : ((mkS nm).toList == ([110, 111, 45, 116, 114, 97, 110, 115, 102, 111, 114, 109] : List UInt8)) = false := by rw [toList_bs, bs_mkS, beq_eq_false_iff_ne]; exact h8
                        by_cases h9 : nm = dn9
                        · have b9 : ((mkS nm).toList == ([111, 110, 108, 121, 45, 105, 102, 45, 99, 97, 99, 104, 101, 100] : List UInt8)) = true := by rw [toList_bs, bs_mkS, h9]; decide
                          have HSet : Hid (setC c (nm, t, h) = set9 c t h) := by show _ = _; rw [h9]; exact setC9 c t h
                          have q0 : w4.cell? ⟨gc, 9, none⟩ = some (.bool c.b3) := HX4.out.cell 9 _ rfl
                          have q1 : w4.frozen? ⟨gc, 9, none⟩ = false := HX4.out.frozen 9
                          clear h0 h1 h2 h3 h4 h5 h6 h7 h8 h9
                          go_wp2_with fail
                          have HXn : Hid (Bx (w4.setCell ⟨gc, 9, none⟩ (.bool true)) gc 63 (ctlA (foldC noneC (D.take (i + 1))))) := by
                            show Bx _ _ _ _
                            rw [HFs.out, HSet.out]
                            skip
                            exact HX4.out.set 9 (.bool true)
                          have HBn := Lib.hid (HB4.out.setCell (p := ⟨gc, 9, none⟩) HGc.out.1 (.bool true))
                          have HRn := Lib.hid (HR4.out.grown (grown_setC w4 gc 9 (.bool true)) HGc.out.2)
                          have HDn := Lib.hid (HD4.out.kept (grown_setC w4 gc 9 (.bool true)) (.inr (bx_not_row HX4.out HD4.out (by decide))))
                          exact ⟨⟨i + 1, by omega, by go_num, HBn, HRn, HXn, HDn⟩, by simp [RowKit.intOf]; omega⟩
                        · have b9 : ((mkS nm).toList == ([111, 110, 108, 121, 45, 105, 102, 45, 99, 97, 99, 104, 101, 100] : List UInt8)) = false := by rw [toList_bs, bs_mkS, beq_eq_false_iff_ne]; exact h9
                          by_cases h10 : nm = dn10
                          · have b10 : ((mkS nm).toList == ([109, 117, 115, 116, 45, 114, 101, 118, 97, 108, 105, 100, 97, 116, 101] : List UInt8)) = true := by rw [toList_bs, bs_mkS, h10]; decide
                            have HSet : Hid (setC c (nm, t, h) = set10 c t h) := by show _ = _; rw [h10]; exact setC10 c t h
                            have q0 : w4.cell? ⟨gc, 10, none⟩ = some (.bool c.b4) := HX4.out.cell 10 _ rfl
                            have q1 : w4.frozen? ⟨gc, 10, none⟩ = false := HX4.out.frozen 10
                            clear h0 h1 h2 h3 h4 h5 h6 h7 h8 h9 h10
                            go_wp2_with fail
                            have HXn : Hid (Bx (w4.setCell ⟨gc, 10, none⟩ (.bool true)) gc 63 (ctlA (foldC noneC (D.take (i + 1))))) := by
                              show Bx _ _ _ _
                              rw [HFs.out, HSet.out]
                              skip
                              exact HX4.out.set 10 (.bool true)
                            have HBn := Lib.hid (HB4.out.setCell (p := ⟨gc, 10, none⟩) HGc.out.1 (.bool true))
                            have HRn := Lib.hid (HR4.out.grown (grown_setC w4 gc 10 (.bool true)) HGc.out.2)
                            have HDn := Lib.hid (HD4.out.kept (grown_setC w4 gc 10 (.bool true)) (.inr (bx_not_row HX4.out HD4.out (by decide))))
                            exact ⟨⟨i + 1, by omega, by go_num, HBn, HRn, HXn, HDn⟩, by simp [RowKit.intOf]; omega⟩
                          · have b10 : ((mkS nm).toList == ([109, 117, 115, 116, 45, 114, 101, 118, 97, 108, 105, 100, 97, 116, 101] : List UInt8)) = false := by rw [toList_bs, bs_mkS, beq_eq_false_iff_ne]; exact h10
                            by_cases h11 : nm = dn11
                            · have b11 : ((mkS nm).toList == ([112, 114, 111, 120, 121, 45, 114, 101, 118, 97, 108, 105, 100, 97, 116, 101] : List UInt8)) = true := by rw [toList_bs, bs_mkS, h11]; decide
                              have HSet : Hid (setC c (nm, t, h) = set11 c t h) := by show _ = _; rw [h11]; exact setC11 c t h
                              have q0 : w4.cell? ⟨gc, 11, none⟩ = some (.bool c.b5) := HX4.out.cell 11 _ rfl
                              have q1 : w4.frozen? ⟨gc, 11, none⟩ = false := HX4.out.frozen 11
                              clear h0 h1 h2 h3 h4 h5 h6 h7 h8 h9 h10 h11
                              go_wp2_with fail
                              have HXn : Hid (Bx (w4.setCell ⟨gc, 11, none⟩ (.bool true)) gc 63 (ctlA (foldC noneC (D.take (i + 1))))) := by
                                show Bx _ _ _ _
                                rw [HFs.out, HSet.out]
                                skip
                                exact HX4.out.set 11 (.bool true)
                              have HBn := Lib.hid (HB4.out.setCell (p := ⟨gc, 11, none⟩) HGc.out.1 (.bool true))
                              have HRn := Lib.hid (HR4.out.grown (grown_setC w4 gc 11 (.bool true)) HGc.out.2)
                              have HDn := Lib.hid (HD4.out.kept (grown_setC w4 gc 11 (.bool true)) (.inr (bx_not_row HX4.out HD4.out (by decide))))
                              exact ⟨⟨i + 1, by omega, by go_num, HBn, HRn, HXn, HDn⟩, by simp [RowKit.intOf]; omega⟩
                            · have b11 : ((mkS nm).toList == ([112, 114, 111, 120, 121, 45, 114, 101, 118, 97, 108, 105, 100, 97, 116, 101] : List UInt8)) = false := by rw [toList_bs, bs_mkS, beq_eq_false_iff_ne]; exact h11
                              by_cases h12 : nm = dn12
                              · have b12 : ((mkS nm).toList == ([109, 117, 115, 116, 45, 117, 110, 100, 101, 114, 115, 116, 97, 110, 100] : List UInt8)) = true := by rw [toList_bs, bs_mkS, h12]; decide
                                have HSet : Hid (setC c (nm, t, h) = set12 c t h) := by show _ = _; rw [h12]; exact setC12 c t h
                                have q0 : w4.cell? ⟨gc, 12, none⟩ = some (.bool c.b6) := HX4.out.cell 12 _ rfl
                                have q1 : w4.frozen? ⟨gc, 12, none⟩ = false := HX4.out.frozen 12
                                clear h0 h1 h2 h3 h4 h5 h6 h7 h8 h9 h10 h11 h12
                                go_wp2_with fail
                                have HXn : Hid (Bx (w4.setCell ⟨gc, 12, none⟩ (.bool true)) gc 63 (ctlA (foldC noneC (D.take (i + 1))))) := by
                                  show Bx _ _ _ _
                                  rw [HFs.out, HSet.out]
                                  skip
                                  exact HX4.out.set 12 (.bool true)
                                have HBn := Lib.hid (HB4.out.setCell (p := ⟨gc, 12, none⟩) HGc.out.1 (.bool true))
                                have HRn := Lib.hid (HR4.out.grown (grown_setC w4 gc 12 (.bool true)) HGc.out.2)
                                have HDn := Lib.hid (HD4.out.kept (grown_setC w4 gc 12 (.bool true)) (.inr (bx_not_row HX4.out HD4.out (by decide))))
                                exact ⟨⟨i + 1, by omega, by go_num, HBn, HRn, HXn, HDn⟩, by simp [RowKit.intOf]; omega⟩
                              · have b12 : ((mkS nm).toList == ([109, 117, 115, 116, 45, 117, 110, 100, 101, 114, 115, 116, 97, 110, 100] : List UInt8)) = false := by rw [toList_bs, bs_mkS, beq_eq_false_iff_ne]; exact h12
                                by_cases h13 : nm = dn13
                                · have b13 : ((mkS nm).toList == ([112, 117, 98, 108, 105, 99] : List UInt8)) = true := by rw [toList_bs, bs_mkS, h13]; decide
                                  have HSet : Hid (setC c (nm, t, h) = set13 c t h) := by show _ = _; rw [h13]; exact setC13 c t h
                                  have q0 : w4.cell? ⟨gc, 13, none⟩ = some (.bool c.b7) := HX4.out.cell 13 _ rfl
                                  have q1 : w4.frozen? ⟨gc, 13, none⟩ = false := HX4.out.frozen 13
                                  clear h0 h1 h2 h3 h4 h5 h6 h7 h8 h9 h10 h11 h12 h13
                                  go_wp2_with fail
                                  have HXn : Hid (Bx (w4.setCell ⟨gc, 13, none⟩ (.bool true)) gc 63 (ctlA (foldC noneC (D.take (i + 1))))) := by
                                    show Bx _ _ _ _
                                    rw [HFs.out, HSet.out]
                                    skip
                                    exact HX4.out.set 13 (.bool true)
                                  have HBn := Lib.hid (HB4.out.setCell (p := ⟨gc, 13, none⟩) HGc.out.1 (.bool true))
                                  have HRn := Lib.hid (HR4.out.grown (grown_setC w4 gc 13 (.bool true)) HGc.out.2)
                                  have HDn := Lib.hid (HD4.out.kept (grown_setC w4 gc 13 (.bool true)) (.inr (bx_not_row HX4.out HD4.out (by decide))))
                                  exact ⟨⟨i + 1, by omega, by go_num, HBn, HRn, HXn, HDn⟩, by simp [RowKit.intOf]; omega⟩
                                · have b13 : ((mkS nm).toList == ([112, 117, 98, 108, 105, 99] : List UInt8)) = false := by rw [toList_bs, bs_mkS, beq_eq_false_iff_ne]; exact h13
                                  by_cases h14 : nm = dn14
                                  · have b14 : ((mkS nm).toList == ([112, 114, 105, 118, 97, 116, 101] : List UInt8)) = true := by rw [toList_bs, bs_mkS, h14]; decide
                                    have HSet : Hid (setC c (nm, t, h) = set14 c t h) := by show _ = _; rw [h14]; exact setC14 c t h
                                    have q0 : w4.cell? ⟨gc, 14, none⟩ = some (.bool c.b8) := HX4.out.cell 14 _ rfl
                                    have q1 : w4.frozen? ⟨gc, 14, none⟩ = false := HX4.out.frozen 14
                                    clear h0 h1 h2 h3 h4 h5 h6 h7 h8 h9 h10 h11 h12 h13 h14
                                    go_wp2_with fail
                                    have HXn : Hid (Bx (w4.setCell ⟨gc, 14, none⟩ (.bool true)) gc 63 (ctlA (foldC noneC (D.take (i + 1))))) := by
                                      show Bx _ _ _ _
                                      rw [HFs.out, HSet.out]
                                      skip
                                      exact HX4.out.set 14 (.bool true)
                                    have HBn := Lib.hid (HB4.out.setCell (p := ⟨gc, 14, none⟩) HGc.out.1 (.bool true))
                                    have HRn := Lib.hid (HR4.out.grown (grown_setC w4 gc 14 (.bool true)) HGc.out.2)
                                    have HDn := Lib.hid (HD4.out.kept (grown_setC w4 gc 14 (.bool true)) (.inr (bx_not_row HX4.out HD4.out (by decide))))
                                    exact ⟨⟨i + 1, by omega, by go_num, HBn, HRn, HXn, HDn⟩, by simp [RowKit.intOf]; omega⟩
                                  · have b14 : ((mkS nm).toList == ([112, 114, 105, 118, 97, 116, 101] : List UInt8)) = false := by rw [toList_bs, bs_mkS, beq_eq_false_iff_ne]; exact h14
                                    have HSet : Hid (setC c (nm, t, h) = c) := setC_no c nm t h h0 h1 h2 h3 h4 h5 h6 h7 h8 h9 h10 h11 h12 h13 h14
                                    clear h0 h1 h2 h3 h4 h5 h6 h7 h8 h9 h10 h11 h12 h13 h14
                                    go_wp2_with fail
                                    have HXn : Hid (Bx w4 gc 63 (ctlA (foldC noneC (D.take (i + 1))))) := by
                                      show Bx _ _ _ _
                                      rw [HFs.out, HSet.out]
                                      exact HX4.out
                                    exact ⟨⟨i + 1, by omega, by go_num, HB4, HR4, HXn, HD4⟩, by simp [RowKit.intOf]; omega⟩
    · obtain rfl : i = D.length := by omega
      rw [List.take_length, ← HPr.out] at HX
      have hbf := below_setRow HB.out (ctlA Cf)
      have hrf := HR.out.row (cs := ctlA Cf)
      have HBf := Lib.hid hbf
      have HRf := Lib.hid hrf
      have HXf := Lib.hid HX.out
      have HR0 := Lib.hid HR.out
      clear hbf hrf HX HR
      go_wp2_with (first | (refine wpList_load_row rfl _ _ rfl gc rfl _ (ctlA Cf) (0, 0) _ HXf.out Tryz.underlying63 rfl (ctl_size _) ?_) | (refine wpListC_store_row rfl _ _ _ rfl w.heap.size _ (ctlA zeroC) (ctlA Cf) rfl rfl HR0.out (ctl_size _) rfl (ctl_one _) ?_))
      refine bodyPost_ret (v := .agg (ctlA Cf)) ?_ rfl ⟨rfl, HBf.out⟩
      exact results_cell_row rfl _ _ w.heap.size 63 _ (0, 0) _ rfl HRf.out Tryz.underlying63 rfl (ctl_size _)
end Tk
end Go.Proofs.YtnbipbeeengiaaaGreatDoor
