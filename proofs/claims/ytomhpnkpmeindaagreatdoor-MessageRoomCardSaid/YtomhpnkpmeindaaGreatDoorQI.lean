/- MsgM MsgN MsgO MsgT, put together. -/
import Derived.Test.YtomhpnkpmeindaaGreatDoorQH
import Derived.Recover
import Derived.Defers
import Derived.Deep.RegionHeld3
namespace Go.Proofs.YtomhpnkpmeindaaGreatDoor
open Go.RowKit
namespace Tk

variable {B b : Nat} {s : Pr} {q z lf : Nat} {V : PV} {w : World}
theorem Par.turn {X : Nat → Prop} {bd : Nat} {d : Dc} {w' : World} (h : Par B b s q z lf V w) (hc : V.c = ptr bd) (hv : V.d = some bd) (hd : DecTo B bd d V.dl V.db V.dt w w') :
    ∃ V', V'.c = ptr bd ∧ V'.d = some bd ∧ Dec B bd d V'.dl V'.db V'.dt w' ∧ Par B b { s with dc := d } q z lf V' w' ∧ PTn b V V' X w w' := by
  obtain ⟨x1, x2, x3, hd, ht⟩ := hd
  have hnm : ∀ k, OwnP b V k → ¬ Mine bd V.dl V.db V.dt k := fun k ho hm => h.apd k ⟨bd, hv, hm⟩ ho
  have hkeep : ∀ k, OwnP b V k → w'.heap[k]? = w.heap[k]? := fun k ho => ht.block k (h.mineLt k (.inl ho)).2 (hnm k ho)
  refine ⟨{ V with dl := x1, db := x2, dt := x3 }, hc, hv, hd, ⟨h.hB, (hkeep b (.inl rfl)).trans h.blk, own_heap h.meth fun k e => hkeep k (.inr (.inl e)), own_heap h.line fun k e => hkeep k (.inr (.inr (.inl e))), own_heap h.flds fun k e => hkeep k (.inr (.inr (.inr (.inl e)))), own_heap h.trl fun k e => hkeep k (.inr (.inr (.inr (.inr (.inl e))))), own_heap h.body fun k e => hkeep k (.inr (.inr (.inr (.inr (.inr e))))), h.lb, h.ft, fun _ => ⟨bd, hc, hv, hd⟩, ?_, ?_⟩, ⟨ht.os, ht.tape, ht.output, ht.size, fun k hk hm _ => ht.block k hk fun e => hm (.inr ⟨bd, hv, e⟩), ?_⟩⟩
  · rintro k ⟨bd', e1, e2⟩
    have : bd' = bd := by rw [show V.d = some bd' from e1] at hv; injection hv
    subst this
    exact hd.mineLt k e2
  · rintro k ⟨bd', e1, e2⟩ ho
    have : bd' = bd := by rw [show V.d = some bd' from e1] at hv; injection hv
    subst this
    rcases ht.new k e2 with h1 | h1
    · exact h.apd k ⟨_, hv, h1⟩ ho
    · have := (h.mineLt k (.inl ho)).2; omega
  · rintro k (e | ⟨bd', e1, e2⟩)
    · exact .inl (.inl e)
    · have : bd' = bd := by rw [show V.d = some bd' from e1] at hv; injection hv
      subst this
      rcases ht.new k e2 with h1 | h1
      · exact .inl (.inr ⟨_, hv, h1⟩)
      · exact .inr h1
theorem Par.doneMsg {X : Nat → Prop} {w2 : World} {v : Value} (h : Par B b s q z lf V w) (hb : Below w.heap.size w w2) (body : Bs) (tr : List (Bs × Bs)) (ho : w2.ownsRow w.heap.size 82 2 v tr.length (fcells tr)) :
    Par B b { s with mode := 7, msg := { s.msg with body := body, tr := tr } } q z lf { V with t := v } ((w2.setCell ⟨b, 18, none⟩ (.string (mkS body))).setCell ⟨b, 19, none⟩ v) ∧ PTn b V { V with t := v } X w ((w2.setCell ⟨b, 18, none⟩ (.string (mkS body))).setCell ⟨b, 19, none⟩ v) := by
  have h2 := h.below hb
  have hlt := h.lt
  obtain ⟨n1, n2, n3, n4, n5⟩ := h2.neB
  have hne : ∀ k, k ≠ b → ((w2.setCell ⟨b, 18, none⟩ (.string (mkS body))).setCell ⟨b, 19, none⟩ v).heap[k]? = w2.heap[k]? := fun k hk => (Below.heap_setCell _ _ _ _ hk).trans (Below.heap_setCell _ _ _ _ hk)
  have hB := h.hB
  have hoB : w2.ownsRow B 82 2 v tr.length (fcells tr) := by
    rcases ho.2 with hn | ⟨g, cap, cur, e, hb1, rest⟩
    · exact ⟨ho.1, .inl hn⟩
    · exact ⟨ho.1, .inr ⟨g, cap, cur, e, by omega, rest⟩⟩
  have hnew : ∀ k, v.ownBlock = some k → w.heap.size ≤ k := fun k e => (ho.lt k e).1
  refine ⟨⟨h.hB, ?_, own_heap h2.meth fun k e => hne k (fun e2 => n1 (e2 ▸ e)), own_heap h2.line fun k e => hne k (fun e2 => n2 (e2 ▸ e)), own_heap h2.flds fun k e => hne k (fun e2 => n3 (e2 ▸ e)), own_heap hoB fun k e => hne k (fun e2 => by have := hnew k e; omega), own_heap h2.body fun k e => hne k (fun e2 => n5 (e2 ▸ e)), h.lb, fun k hk hv => ?_, (fun e => by cases e), fun k e => ⟨(h2.dlt k e).1, by have := (h2.dlt k e).2; simpa using this⟩, fun k e hoo => ?_⟩, ⟨hb.os, hb.tape, hb.output, by have := hb.size; simpa using this, fun k hk hm _ => (hne k (fun e => hm (.inl (.inl e)))).trans (hb.block k hk), fun k hk => ?_⟩⟩
  · rw [heap_setCell_same _ b 19 _ _ _ (heap_setCell_same w2 b 18 _ _ _ h2.blk)]; rfl
  · have h1 := (h.flds.lt k hk).2
    have h3 := hnew k hv
    omega
  · have h1 := (h.dlt k e).2
    rcases hoo with e2 | e2 | e2 | e2 | e2 | e2
    · exact h.apd k e (.inl e2)
    · exact h.apd k e (.inr (.inl e2))
    · exact h.apd k e (.inr (.inr (.inl e2)))
    · exact h.apd k e (.inr (.inr (.inr (.inl e2))))
    · have := hnew k e2; omega
    · exact h.apd k e (.inr (.inr (.inr (.inr (.inr e2)))))
  · rcases hk with (e2 | e2 | e2 | e2 | e2 | e2) | e2
    · exact .inl (.inl (.inl e2))
    · exact .inl (.inl (.inr (.inl e2)))
    · exact .inl (.inl (.inr (.inr (.inl e2))))
    · exact .inl (.inl (.inr (.inr (.inr (.inl e2)))))
    · exact .inr (hnew k e2)
    · exact .inl (.inl (.inr (.inr (.inr (.inr (.inr e2))))))
    · exact .inl (.inr e2)
theorem chunk_bad (s : Pr) (d : Dc) (h : d.bad ≠ 0) : chunkP s d = { s with dc := d, bad := d.bad, mode := 7 } := by unfold chunkP; rw [if_pos h]
theorem chunk_end (s : Pr) (d : Dc) (h : d.bad = 0) (h2 : d.mode = 5) : chunkP s d = { s with dc := d, mode := 7, msg := { s.msg with body := d.body, tr := d.trl } } := by unfold chunkP; rw [if_neg (by omega), if_pos h2]
theorem chunk_more (s : Pr) (d : Dc) (h : d.bad = 0) (h2 : d.mode ≠ 5) : chunkP s d = { s with dc := d } := by unfold chunkP; rw [if_neg (by omega), if_neg h2]

set_option maxHeartbeats 8000000 in
set_option maxRecDepth 100000 in
theorem pchunked_any (g : Nat) (l : Bs) (h : Par B b s q 0 lf V w) (hi : Inp g l w) (hg : ¬ PMine b V g) (hm : s.mode = 6) (hr : Room s l) (hne : l ≠ []) (hv : ErrV B w) :
    Calls Tryz.prog 77 #[ptr b, ptr g] w (StPost B b s q lf V g l w) := by
  have hb0 := (not_stop hr.go).2.1
  have hst := hr.ok.fit.chk hm
  have hdf := hr.ok.fit.dc
  obtain ⟨l1, l2, l3, l4⟩ := hr.ok.fit.dlim hm
  have hlim : Lim s.dc := by
    obtain ⟨a1, a2, a3, a4⟩ := hr.ok.lim
    unfold Lim; rw [l1, l2, l3, l4]; exact ⟨a1, a2, a3, a4⟩
  have hnm := hr.n
  obtain ⟨bd, hc, hd, hD⟩ := h.dec hm
  have hea := eats_chunk l s hr.go hm hst hne
  have hle := feedD_le l s.dc
  have hpos : 1 ≤ (feedD s.dc l).1 := by
    cases l with
    | nil => exact absurd rfl hne
    | cons c t => rw [feedD_cons _ _ _ hst]; simp
  have hfit := feedD_fit l s.dc s.left hdf
  have hF : ∀ W, Below w.heap.size w W → Calls Tryz.prog 92 #[.pointer (some ⟨bd, 0, none⟩), .string (mkS l)] W (FeedPost B bd s.dc l V.dl V.db V.dt W) := by
    intro W hb
    have := feed_any (mkS l) (hD.below (hb.mono (Nat.le_refl _))) s.left hdf (by rw [size_mkS]; omega) hlim (hv.later (hb.mono hv.2.1))
    rw [bs_mkS] at this
    exact this
  unfold FeedPost at hF
  obtain ⟨n, hn⟩ : ∃ n, n = (feedD s.dc l).1 := ⟨_, rfl⟩
  obtain ⟨d, hdd⟩ : ∃ d, d = (feedD s.dc l).2 := ⟨_, rfl⟩
  rw [← hn, ← hdd] at hF hea
  rw [← hn] at hle hpos
  rw [← hdd] at hfit
  have c23 : w.cell? ⟨b, 23, none⟩ = some (.pointer (some ⟨bd, 0, none⟩)) := by rw [show Value.pointer (some ⟨bd, 0, none⟩) = V.c from hc.symm]; exact h.cell 23 _ rfl
  have cg0 := hi.cell
  have HP := Lib.hid h
  have HI := Lib.hid hi
  have HG := Lib.hid (show g < w.heap.size ∧ ¬ PMine b V g from ⟨hi.lt, hg⟩)
  have HK := Lib.hid (⟨hpos, hle, hea⟩ : _ ∧ _ ∧ _)
  have HM := Lib.hid (⟨hm, hb0⟩ : _ ∧ _)
  have HC := Lib.hid (⟨hc, hd⟩ : _ ∧ _)
  have HFt := Lib.hid hfit
  have HBd := Lib.hid (show s.left + l.length ≤ 100000 from hnm)
  have HFa : Hid (Calls Tryz.prog 92 #[.pointer (some ⟨bd, 0, none⟩), .string (mkS l)] w.drew fun e w' => e = .returned (.tuple #[.int .i64 n, .int .i64 d.bad]) ∧ w'.cell? ⟨b, 23, none⟩ = some (.pointer (some ⟨bd, 0, none⟩)) ∧ w'.cell? ⟨g, 0, none⟩ = some (.string (mkS l)) ∧ Hid (∃ V', V'.c = ptr bd ∧ V'.d = some bd ∧ Dec B bd d V'.dl V'.db V'.dt w' ∧ Par B b { s with dc := d } q 0 lf V' w' ∧ PTn b V V' (· = g) w w') ∧ Hid (Inp g l w')) := by
    refine (hF w.drew ((Below.refl _ _).drew)).mono ?_
    rintro e w' ⟨rfl, hdt⟩
    have hp := HP.out.draws 1
    obtain ⟨V', p3, p4, p5, p1, p2⟩ := hp.turn (X := fun _ => False) hc hd hdt
    have hin := inp_aside (show Inp g l (w.drewN 1) from HI.out) HG.out.2 p2 (fun e => e)
    have h23 : w'.cell? ⟨b, 23, none⟩ = some V'.c := p1.cell 23 _ rfl
    refine ⟨rfl, ?_, hin.cell, ⟨V', p3, p4, p5, p1, (PTn.draws 1).trans (p2.mono fun _ _ e => e.elim)⟩, hin⟩
    rw [h23, p3]; rfl
  clear h hi hg hm hr hne hv hb0 hst hdf l1 l2 l3 l4 hlim hnm hc hd hD hea hle hpos hfit hF hn hdd
  unfold ptr at *
  go_enter Tryz.func77, Tryz.ntmps77
  go_wp2_with fail
  (go_region_held3 (fun w' => w'.cell? ⟨b, 23, none⟩ = some (.pointer (some ⟨bd, 0, none⟩)) ∧ w'.cell? ⟨g, 0, none⟩ = some (.string (mkS l))) (first | (refine ⟨?_, ?_⟩ <;> assumption) | go_keep) (first
      | (go_at_call 92; refine HFa.out.mono ?_; rintro e w2 ⟨rfl, t23, tg, HPp, HIn⟩)))
  clear t23 tg
  obtain ⟨V2, q1, q2, q3, q4, q5⟩ := HPp.out
  have HTk := Lib.hid (take_any g l n w2 HIn.out)
  have hmine := q5.not_mine HG.out
  have HP3 := Lib.hid (q4.aside hmine 0 (.string (mkS (l.drop n))))
  have HT3 := Lib.hid (q5.aside (k := g) (.inl rfl) 0 (.string (mkS (l.drop n))))
  have HI3 := Lib.hid (HIn.out.put (l.drop n))
  have HC3 := Lib.hid (⟨q1, q2⟩ : _ ∧ _)
  have HD3 := Lib.hid (show Dec B bd d V2.dl V2.db V2.dt (w2.setCell ⟨g, 0, none⟩ (.string (mkS (l.drop n)))) from q3.aside (fun e => hmine (.inr ⟨bd, q2, e⟩)) 0 _)
  have hG3 := HT3.out.not_mine HG.out
  have HG3 := Lib.hid hG3
  clear q1 q2 q3 q4 q5 hmine HPp HIn hG3 c23 cg0 HFa
  unfold ptr at HTk
  go_wp2_with fail
  refine HTk.out.mono ?_
  rintro e w3 ⟨rfl, rfl⟩
  generalize w2.setCell ⟨g, 0, none⟩ (.string (mkS (l.drop n))) = w3 at *
  by_cases hbad : d.bad = 0
  · have e0 : ((d.bad : Int) != 0) = false := by simp [hbad]
    have k23 : w3.cell? ⟨b, 23, none⟩ = some (.pointer (some ⟨bd, 0, none⟩)) := by rw [show Value.pointer (some ⟨bd, 0, none⟩) = V2.c from HC3.out.1.symm]; exact HP3.out.cell 23 _ rfl
    have HDn := Lib.hid (done_any HD3.out HFt.out.mode)
    have HBad := Lib.hid hbad
    unfold ptr at HDn
    clear hbad
    by_cases hm5 : d.mode = 5
    · have HCp := Lib.hid (chunk_end s d HBad.out hm5)
      rw [decide_eq_true hm5] at HDn
      have hbod : ∀ W, Below w3.heap.size w3 W → Calls Tryz.prog 94 #[.pointer (some ⟨bd, 0, none⟩)] W fun e w' => e = .returned (.string (mkS d.body)) ∧ w' = W := fun W hb => body_any (HD3.out.below hb)
      have htrl : Calls Tryz.prog 95 #[.pointer (some ⟨bd, 0, none⟩)] w3.drew fun e w' => ∃ (a : Option Addr) (c : Nat), e = .returned (.slice a d.trl.length c) ∧ Below w3.heap.size w3 w' ∧ w'.cell? ⟨b, 23, none⟩ = some (.pointer (some ⟨bd, 0, none⟩)) ∧ w'.cell? ⟨b, 18, none⟩ = some (.string (mkS s.msg.body)) ∧ w'.frozen? ⟨b, 18, none⟩ = false ∧ w'.cell? ⟨b, 19, none⟩ = some V2.t ∧ w'.frozen? ⟨b, 19, none⟩ = false ∧ Hid (w'.ownsRow w3.heap.size 82 2 (.slice a d.trl.length c) d.trl.length (fcells d.trl)) := by
        refine (trailers_any (show Dec B bd d V2.dl V2.db V2.dt w3.drew from HD3.out.draws 1) (by have := HFt.out.trl; have := HBd.out; omega)).mono ?_
        rintro e w' ⟨v, rfl, ho, hb⟩
        have hb2 : Below w3.heap.size w3 w' := ((Below.refl _ _).drew).trans hb
        have hp := HP3.out.below hb2
        obtain ⟨a, c, hv, -⟩ := isFlds_own ho
        subst hv
        refine ⟨a, c, rfl, hb2, ?_, hp.cell 18 _ rfl, hp.frz 18, hp.cell 19 _ rfl, hp.frz 19, ho⟩
        rw [show Value.pointer (some ⟨bd, 0, none⟩) = V2.c from HC3.out.1.symm]; exact hp.cell 23 _ rfl
      have HBod := Lib.hid hbod
      have HTrl := Lib.hid htrl
      have hBd0 : Below w3.heap.size w3 w3.drew := (Below.refl _ _).drew
      clear hbod htrl hm5
      go_wp2_with fail
      refine HDn.out.mono ?_
      rintro e w4 ⟨rfl, rfl⟩
      go_wp2_with fail
      (go_region_held3 (fun w' => w'.cell? ⟨b, 23, none⟩ = some (.pointer (some ⟨bd, 0, none⟩))) (first | assumption | ((rw [World.cell?_setCell_other _ _ _ _ (by intro e; injection e with _ e2 _; cases e2)]); assumption) | ((rw [World.cell?_setCell_other _ _ _ _ (by intro e; injection e with _ e2 _; cases e2), World.cell?_setCell_other _ _ _ _ (by intro e; injection e with _ e2 _; cases e2)]); assumption)) (first
        | (go_at_call 94; refine (HBod.out _ (by assumption)).mono ?_; rintro e w5 ⟨rfl, rfl⟩)
        | (go_at_call 95; refine HTrl.out.mono ?_; rintro e w6 ⟨a6, c6, rfl, hb6, t23, k18, f18, k19, f19, HO6⟩)))
      all_goals
        have HX := Lib.hid (show ∀ e, e = .returned (.tuple #[.nilFunc, .nilIface]) → StPost B b s q lf V g l w e ((w6.setCell ⟨b, 18, none⟩ (.string (mkS d.body))).setCell ⟨b, 19, none⟩ (.slice a6 d.trl.length c6)) from fun e' he' => by
          obtain ⟨r1, r2⟩ := HP3.out.doneMsg (X := fun _ => False) hb6 d.body d.trl HO6.out
          refine ⟨n, _, HK.out.1, HK.out.2.1, HK.out.2.2, ?_, ⟨_, ?_, HT3.out.trans (r2.mono fun _ _ e => e.elim)⟩, inp_aside HI3.out HG3.out r2 (fun e => e)⟩
          · rw [he', stE_ate, HCp.out]; unfold stE; rw [if_pos (by exact HM.out.2)]; rfl
          · rw [HCp.out]; exact (r1.ate n).as _ rfl rfl rfl rfl rfl rfl (fun e => by cases e))
        go_wp2_with fail
        go_ret2
        exact HX.out _ rfl
    · have HCp := Lib.hid (chunk_more s d HBad.out hm5)
      rw [decide_eq_false hm5] at HDn
      have HX := Lib.hid (show ∀ e, e = .returned (.tuple #[pstV 6, .nilIface]) → StPost B b s q lf V g l w e w3 from fun e' he' => by
        refine ⟨n, _, HK.out.1, HK.out.2.1, HK.out.2.2, ?_, ⟨V2, ?_, HT3.out⟩, HI3.out⟩
        · rw [he', stE_ate, HCp.out]; unfold stE; rw [if_pos (by exact HM.out.2), show ({ s with dc := d } : Pr).mode = 6 from HM.out.1]
        · rw [HCp.out]; exact HP3.out.ate n)
      clear hm5
      unfold pstV at *
      go_wp2_with fail
      refine HDn.out.mono ?_
      rintro e w4 ⟨rfl, rfl⟩
      go_wp2_with fail
      go_ret2
      exact HX.out _ rfl
  · have e0 : ((d.bad : Int) != 0) = true := by simp [hbad]
    have HCp := Lib.hid (chunk_bad s d hbad)
    have HX := Lib.hid (show ∀ e, e = .returned (.tuple #[.nilFunc, flV d.bad]) → StPost B b s q lf V g l w e w3 from fun e' he' => by
      refine ⟨n, _, HK.out.1, HK.out.2.1, HK.out.2.2, ?_, ⟨V2, ?_, HT3.out⟩, HI3.out⟩
      · rw [he', stE_ate, HCp.out]; unfold stE; rw [if_neg (by exact hbad), if_pos rfl]
      · rw [HCp.out]; exact (HP3.out.ate n).as _ rfl rfl rfl rfl rfl rfl (fun e => by cases e))
    clear hbad
    unfold flV at *
    go_wp2_with fail
    go_ret2
    exact HX.out _ rfl
end Tk
end Go.Proofs.YtomhpnkpmeindaaGreatDoor
namespace Go.Proofs.YtomhpnkpmeindaaGreatDoor
open Go.RowKit
namespace Tk

variable {B b : Nat} {s : Pr} {q z lf : Nat} {V : PV} {w : World}
theorem headEnd_m5 {s : Pr} (hr : s.rsp = false) : (headEndP s).mode ≠ 5 := by
  have h4 : pK s ≠ 4 := by unfold pK; rw [hr]; exact frK_not4 _ _
  unfold headEndP Pr.fl
  rw [if_neg h4]
  repeat' split
  all_goals simp_all
theorem stepP_m5 {s : Pr} (c : UInt8) (hr : s.rsp = false) (h5 : s.mode ≠ 5) : (stepP s c).mode ≠ 5 := by
  unfold stepP stepQ
  show (if _ then _ else _ : Pr).mode ≠ 5
  split
  · split
    · exact h5
    · split
      · unfold lineP
        split
        · split
          · simp
          · unfold reqP Pr.fl; split <;> simp
        · split
          · unfold reqP Pr.fl; split <;> simp
          · split
            · unfold staP Pr.fl; split <;> simp
            · split
              · exact headEnd_m5 (s := { s with line := [], head := s.head + 1 }) hr
              · unfold fldP Pr.fl; repeat' split
                · simp
                · exact h5
                · simp
      · split
        · simp [Pr.fl]
        · exact h5
  · split
    · unfold countP; split
      · exact h5
      · simp
    · split
      · unfold chunkP; repeat' split
        · simp
        · simp
        · exact h5
      · exact h5
/-- a parser of requests: the states that it is never in -/
structure Rq (s : Pr) : Prop where
  rq : s.rsp = false
  m2 : s.mode ≠ 2
  m5 : s.mode ≠ 5
theorem feedP_rq : ∀ (l : Bs) (s : Pr), Rq s → Rq (feedP s l).2
  | [], s, h => h
  | c :: t, s, h => by
    cases hs : stopP s
    · rw [feedP_cons s c t hs]
      exact feedP_rq t _ ⟨(stepP_lim s c).2.2.2.2.1.trans h.rq, stepP_m2 c h.m2, stepP_m5 c h.rq h.m5⟩
    · rw [feedP_stop s _ hs]; exact h
theorem EatsP.rq {s s' : Pr} {a : Bs} (h : EatsP s a s') (hs : Rq s) : Rq s' := by
  have := feedP_rq a s hs
  unfold EatsP at h
  rw [h] at this
  exact this
theorem fresh_rq {s : Pr} (h : s.rsp = false) : Rq s.fresh := ⟨h, fresh_m2 h, by unfold Pr.fresh; rw [h]; simp⟩
theorem new_rq (L H C M : Nat) : Rq (newP L H C M false) := ⟨rfl, by simp [newP], by simp [newP]⟩

/-- the state that a parser is in, of requests -/
theorem pstate_any (g : Nat) (l : Bs) (h : Par B b s s.mode 0 lf V w) (hi : Inp g l w) (hg : ¬ PMine b V g) (hq : Rq s) (hr : Room s l) (hne : l ≠ []) (hv : ErrV B w) :
    ∃ F, pstV s.mode = .func (.func F) #[] #[] ∧ (∀ args w, (callFunc F args).run Tryz.prog w = .ok (.enter F args) w) ∧ Calls Tryz.prog F #[.pointer (some ⟨b, 0, none⟩), .pointer (some ⟨g, 0, none⟩)] w (StPost B b s s.mode lf V g l w) := by
  have h7 := hr.ok.fit.mode
  have hn7 := (not_stop hr.go).1
  have h2 := hq.m2
  have h5 := hq.m5
  have hcase : s.mode = 0 ∨ s.mode = 1 ∨ s.mode = 3 ∨ s.mode = 4 ∨ s.mode = 6 := by omega
  rcases hcase with e | e | e | e | e
  · exact ⟨_, by rw [e]; rfl, enters_of Tryz.func38 (by kernel_rfl) rfl, pbefore_any g l h hi hg e hr hne⟩
  · exact ⟨_, by rw [e]; rfl, enters_of Tryz.func47 (by kernel_rfl) rfl, preqline_any g l h hi hg e hr hne⟩
  · exact ⟨_, by rw [e]; rfl, enters_of Tryz.func50 (by kernel_rfl) rfl, pfield_any g l h hi hg e hr hne⟩
  · exact ⟨_, by rw [e]; rfl, enters_of Tryz.func75 (by kernel_rfl) rfl, pcounted_any g l h hi hg e hr hne⟩
  · exact ⟨_, by rw [e]; rfl, enters_of Tryz.func77 (by kernel_rfl) rfl, pchunked_any g l h hi hg e hr hne hv⟩

/-- the boxes of Feed -/
structure Boxed (b gp gb gi gn gs : Nat) (g : Nat) (t : ByteArray) (rest : Bs) (w : World) : Prop where
  cp : w.cell? ⟨gp, 0, none⟩ = some (.pointer (some ⟨b, 0, none⟩))
  cb : w.cell? ⟨gb, 0, none⟩ = some (.string t)
  ci : w.cell? ⟨gi, 0, none⟩ = some (.pointer (some ⟨g, 0, none⟩))
  cr : w.cell? ⟨g, 0, none⟩ = some (.string (mkS rest))
  cn : w.cell? ⟨gn, 0, none⟩ = some (.int .i64 0)
  fn : w.frozen? ⟨gn, 0, none⟩ = false
  cs : w.cell? ⟨gs, 0, none⟩ = some (.int .i64 0)
  fs : w.frozen? ⟨gs, 0, none⟩ = false
  np : gp ≠ gn ∧ gp ≠ gs ∧ gp ≠ b
  nb : gb ≠ gn ∧ gb ≠ gs ∧ gb ≠ b
  ni : gi ≠ gn ∧ gi ≠ gs ∧ gi ≠ b
  nr : g ≠ gn ∧ g ≠ gs ∧ g ≠ b
  nn : gn ≠ gs ∧ gn ≠ b ∧ gs ≠ b

/-- what Feed's deferred part leaves -/
def FdPost (B b : Nat) (s : Pr) (q z lf : Nat) (V : PV) (gn gs k : Nat) (w w' : World) : Prop :=
  Par B b s q z (lf + k) V w' ∧ PTn b V V (fun x => x = gn ∨ x = gs) w w' ∧ w'.cell? ⟨gn, 0, none⟩ = some (.int .i64 k) ∧ w'.cell? ⟨gs, 0, none⟩ = some (.int .i64 z)
theorem wp_via {P : Program} {c : Code} {Q : Exit → Act → World → Prop} {a : Act} {w : World} (h : ∀ Q', (∀ e a' w', Q e a' w' → Q' e a' w') → c.wp P Q' a w) : c.wp P Q a w := h Q (fun _ _ _ h => h)
set_option maxHeartbeats 4000000 in
set_option maxRecDepth 100000 in
theorem feedEnd_idle (gp gb gi gn gs g : Nat) (t : ByteArray) (rest : Bs) (k : Nat) (h : Boxed b gp gb gi gn gs g t rest w) (hp : Par B b s q z lf V w) (hk : t.size = k + rest.length) (hl : lf + t.size ≤ 1099511627776) (hnm : ¬ PMine b V gn ∧ ¬ PMine b V gs) :
    CallsD Tryz.prog 29 #[.pointer (some ⟨gp, 0, none⟩), .pointer (some ⟨gb, 0, none⟩), .pointer (some ⟨gi, 0, none⟩), .pointer (some ⟨gn, 0, none⟩), .pointer (some ⟨gs, 0, none⟩)] .returning w fun e u' w' =>
      e = .returned (.tuple #[]) ∧ u' = .returning ∧ FdPost B b s q z lf V gn gs k w w' := by
  have HBx := Lib.hid h
  have HNm := Lib.hid hnm
  have hsz := size_mkS rest
  obtain ⟨tx, htx⟩ : ∃ tx, tx = mkS rest := ⟨_, rfl⟩
  rw [← htx] at hsz
  have HTx := Lib.hid htx
  have hsub : IntKind.i64.wrap ((t.size : Int) - (tx.size : Int)) = (k : Int) := by rw [IntWalk.i64_in _ (by omega)]; omega
  have hadd : IntKind.i64.wrap ((lf : Int) + (k : Int)) = ((lf + k : Nat) : Int) := by rw [IntWalk.i64_in _ (by omega)]; omega
  have HSub := Lib.hid hsub
  have HAdd := Lib.hid hadd
  have HP := Lib.hid hp
  clear h hp hk hl hsz htx hsub hadd hnm
  refine callsD_of_wpS Tryz.func29 rfl fun c₀ cs hu => ?_
  apply wpS_seq
  apply wpS_seq
  apply wpS_region
  simp [wpOpsS, go_sem, recoverD, hu, Tryz.ntmps29, Exit.thenS]
  refine wpS_of_wp ?_
  refine wp_via fun Q1 hQ1 => ?_
  have HQ1 := Lib.hid hQ1
  clear hQ1
  rw [show (#[Value.pointer (some ⟨gp, 0, none⟩), Value.pointer (some ⟨gb, 0, none⟩), Value.pointer (some ⟨gi, 0, none⟩), Value.pointer (some ⟨gn, 0, none⟩), Value.pointer (some ⟨gs, 0, none⟩)] ++ (Array.replicate 34 undef).setIfInBounds 3 Value.nilIface : Array Value) = #[Value.pointer (some ⟨gp, 0, none⟩), Value.pointer (some ⟨gb, 0, none⟩), Value.pointer (some ⟨gi, 0, none⟩), Value.pointer (some ⟨gn, 0, none⟩), Value.pointer (some ⟨gs, 0, none⟩), undef, undef, undef, Value.nilIface, undef, undef, undef, undef, undef, undef, undef, undef, undef, undef, undef, undef, undef, undef, undef, undef, undef, undef, undef, undef, undef, undef, undef, undef, undef, undef, undef, undef, undef, undef] from by kernel_rfl]
  have HU := Lib.hid hu
  clear hu
  go_wp2_with fail
  refine HQ1.out _ _ _ ?_
  clear HQ1
  simp only [Exit.thenS]
  refine wpS_of_wp ?_
  obtain ⟨c1, c2, c3, c4, c5, f5, c6, f6, ⟨n1, n2, n3⟩, ⟨n4, n5, n6⟩, ⟨n7, n8, n9⟩, ⟨n10, n11, n12⟩, ⟨n13, n14, n15⟩⟩ := HBx.out
  have c7 : w.cell? ⟨b, 7, none⟩ = some (.int .i64 z) := HP.out.cell 7 _ rfl
  have c9 : w.cell? ⟨b, 9, none⟩ = some (.int .i64 lf) := HP.out.cell 9 _ rfl
  have f9 := HP.out.frz 9
  rw [← HTx.out] at c4
  refine wp_via fun Q2 hQ2 => ?_
  have HQ2 := Lib.hid hQ2
  clear hQ2
  go_wp2_with fail
  have hsub := HSub.out
  have m1 := n1.symm
  have m2 := n2.symm
  have m4 := n4.symm
  have m5 := n5.symm
  have m7 := n7.symm
  have m8 := n8.symm
  have m10 := n10.symm
  have m11 := n11.symm
  have m13 := n13.symm
  have m14 := n14.symm
  have m15 := n15.symm
  (go_region_held3 (fun w' => w'.cell? ⟨gp, 0, none⟩ = some (.pointer (some ⟨b, 0, none⟩)) ∧ w'.cell? ⟨gb, 0, none⟩ = some (.string t) ∧ w'.cell? ⟨gi, 0, none⟩ = some (.pointer (some ⟨g, 0, none⟩)) ∧ w'.cell? ⟨g, 0, none⟩ = some (.string tx) ∧ w'.cell? ⟨b, 7, none⟩ = some (.int .i64 z)) (first | (refine ⟨?_, ?_, ?_, ?_, ?_⟩ <;> assumption) | go_keep) (first | fail))
  have HPW := Lib.hid (show Par B b s q z lf V ((w.setCell ⟨gn, 0, none⟩ (.int .i64 k)).setCell ⟨gs, 0, none⟩ (.int .i64 z)).drew from ((HP.out.aside HNm.out.1 0 _).aside HNm.out.2 0 _).draws 1)
  have HTW := Lib.hid (show PTn b V V (fun x => x = gn ∨ x = gs) w ((w.setCell ⟨gn, 0, none⟩ (.int .i64 k)).setCell ⟨gs, 0, none⟩ (.int .i64 z)).drew from (((PTn.refl).aside (.inl (.inl rfl)) 0 _).aside (.inl (.inr rfl)) 0 _).trans (PTn.draws 1))
  have y1 : ((w.setCell ⟨gn, 0, none⟩ (.int .i64 k)).setCell ⟨gs, 0, none⟩ (.int .i64 z)).drew.cell? ⟨gp, 0, none⟩ = some (.pointer (some ⟨b, 0, none⟩)) := by
    show ((w.setCell ⟨gn, 0, none⟩ (.int .i64 k)).setCell ⟨gs, 0, none⟩ (.int .i64 z)).cell? ⟨gp, 0, none⟩ = _
    rw [World.cell?_setCell_other _ _ _ _ (by intro e; injection e with e1 _ _; exact n2 e1.symm), World.cell?_setCell_other _ _ _ _ (by intro e; injection e with e1 _ _; exact n1 e1.symm)]; exact c1
  have yn : ((w.setCell ⟨gn, 0, none⟩ (.int .i64 k)).setCell ⟨gs, 0, none⟩ (.int .i64 z)).drew.cell? ⟨gn, 0, none⟩ = some (.int .i64 k) := by
    show ((w.setCell ⟨gn, 0, none⟩ (.int .i64 k)).setCell ⟨gs, 0, none⟩ (.int .i64 z)).cell? ⟨gn, 0, none⟩ = _
    rw [World.cell?_setCell_other _ _ _ _ (by intro e; injection e with e1 _ _; exact n13 e1.symm), World.cell?_setCell_same _ _ _ c5]
  have ys : ((w.setCell ⟨gn, 0, none⟩ (.int .i64 k)).setCell ⟨gs, 0, none⟩ (.int .i64 z)).drew.cell? ⟨gs, 0, none⟩ = some (.int .i64 z) := by
    show ((w.setCell ⟨gn, 0, none⟩ (.int .i64 k)).setCell ⟨gs, 0, none⟩ (.int .i64 z)).cell? ⟨gs, 0, none⟩ = _
    rw [World.cell?_setCell_same _ _ _ ((World.cell?_setCell_other _ _ _ _ (by intro e; injection e with e1 _ _; exact n13 e1)).trans c6)]
  have y9 : ((w.setCell ⟨gn, 0, none⟩ (.int .i64 k)).setCell ⟨gs, 0, none⟩ (.int .i64 z)).drew.cell? ⟨b, 9, none⟩ = some (.int .i64 lf) := HPW.out.cell 9 _ rfl
  have g9 := HPW.out.frz 9
  have hadd := HAdd.out
  have HYn := Lib.hid (⟨yn, ys⟩ : _ ∧ _)
  clear hsub c1 c2 c3 c4 c5 c6 f5 f6 c7 c9 f9 HBx m1 m2 m4 m5 m7 m8 m10 m11 m13
  generalize ((w.setCell ⟨gn, 0, none⟩ (.int .i64 k)).setCell ⟨gs, 0, none⟩ (.int .i64 z)).drew = W at *
  go_wp2_with fail
  go_region
  have HFin := Lib.hid (show FdPost B b s q z lf V gn gs k w (W.setCell ⟨b, 9, none⟩ (.int .i64 ((lf : Int) + (k : Int)))).drew from by
    have h9 := HPW.out.set 9 (.int .i64 ((lf : Int) + (k : Int))) s q z (lf + k) rfl rfl rfl rfl rfl rfl (fun e => ⟨e, rfl⟩)
    refine ⟨h9.draws 1, (HTW.out.trans (PTn.set 9 _)).trans (PTn.draws 1), ?_, ?_⟩
    · exact (World.cell?_setCell_other _ _ _ _ (by intro e; injection e with e1 _ _; exact n14 e1.symm)).trans HYn.out.1
    · exact (World.cell?_setCell_other _ _ _ _ (by intro e; injection e with e1 _ _; exact n15 e1.symm)).trans HYn.out.2)
  refine HQ2.out _ _ _ ?_
  have hu := HU.out
  have hFin := HFin.out
  clear HQ2 HFin HU HYn HPW HTW HAdd HSub HTx HNm HP n1 n2 n3 n4 n5 n6 n7 n8 n9 n10 n11 n12 n13 n14 n15 m14 m15 hadd y1 yn ys y9 g9
  cases c₀
  simp_all [bodyPostS, results, Tryz.results29, go_sem]
theorem asserted_mal (xT : TypeId) (w : World) : (Instr.typeAssert (.iface 72 (.agg #[])) xT 72 true).run Tryz.prog w = .ok (.tuple #[.agg #[], .bool true]) w := by
  simp [Instr.typeAssert, run_underlying Tryz.underlying72]
theorem Boxed.later {gp gb gi gn gs g : Nat} {t : ByteArray} {rest : Bs} {w' : World} (h : Boxed b gp gb gi gn gs g t rest w) (hb : Below w.heap.size w w') (i : Nat) (u : Value) : Boxed b gp gb gi gn gs g t rest (w'.setCell ⟨b, i, none⟩ u) := by
  obtain ⟨c1, c2, c3, c4, c5, f5, c6, f6, h1, h2, h3, h4, h5⟩ := h
  have hk : ∀ (k : Nat) (v : Value), k ≠ b → w.cell? ⟨k, 0, none⟩ = some v → (w'.setCell ⟨b, i, none⟩ u).cell? ⟨k, 0, none⟩ = some v := fun k v hne hc =>
    (World.cell?_setCell_other _ _ _ _ (by intro e; injection e with e1 _ _; exact hne e1.symm)).trans ((hb.cell (p := ⟨k, 0, none⟩) (cell_lt hc)).trans hc)
  have hf : ∀ (k : Nat) (v : Value), k ≠ b → w.cell? ⟨k, 0, none⟩ = some v → w.frozen? ⟨k, 0, none⟩ = false → (w'.setCell ⟨b, i, none⟩ u).frozen? ⟨k, 0, none⟩ = false := fun k v hne hc hf => by
    have h1 : w'.frozen? ⟨k, 0, none⟩ = false := (hb.frozen (p := ⟨k, 0, none⟩) (cell_lt hc)).trans hf
    rw [World.frozen?_of_block (w := w') (Below.heap_setCell _ _ _ _ hne)]; exact h1
  exact ⟨hk _ _ h1.2.2 c1, hk _ _ h2.2.2 c2, hk _ _ h3.2.2 c3, hk _ _ h4.2.2 c4, hk _ _ h5.2.1 c5, hf _ _ h5.2.1 c5 f5, hk _ _ h5.2.2 c6, hf _ _ h5.2.2 c6 f6, h1, h2, h3, h4, h5⟩
set_option maxHeartbeats 4000000 in
set_option maxRecDepth 100000 in
theorem feedEnd_mal (gp gb gi gn gs g : Nat) (t : ByteArray) (rest : Bs) (k : Nat) (h : Boxed b gp gb gi gn gs g t rest w) (hp : Par B b s q z lf V w) (hk : t.size = k + rest.length) (hl : lf + t.size ≤ 1099511627776) (hnm : ¬ PMine b V gn ∧ ¬ PMine b V gs) :
    CallsD Tryz.prog 29 #[.pointer (some ⟨gp, 0, none⟩), .pointer (some ⟨gb, 0, none⟩), .pointer (some ⟨gi, 0, none⟩), .pointer (some ⟨gn, 0, none⟩), .pointer (some ⟨gs, 0, none⟩)] (.panicking malP) w fun e u' w' =>
      e = .returned (.tuple #[]) ∧ u' = .panicking [{ v := .iface 72 (.agg #[]), recovered := true }] ∧ FdPost B b { s with bad := 400 } q 400 lf V gn gs k w w' := by
  unfold malP
  have HBx := Lib.hid h
  have HNm := Lib.hid hnm
  have hsz := size_mkS rest
  obtain ⟨tx, htx⟩ : ∃ tx, tx = mkS rest := ⟨_, rfl⟩
  rw [← htx] at hsz
  have HTx := Lib.hid htx
  have hsub : IntKind.i64.wrap ((t.size : Int) - (tx.size : Int)) = (k : Int) := by rw [IntWalk.i64_in _ (by omega)]; omega
  have hadd : IntKind.i64.wrap ((lf : Int) + (k : Int)) = ((lf + k : Nat) : Int) := by rw [IntWalk.i64_in _ (by omega)]; omega
  have HSub := Lib.hid hsub
  have HAdd := Lib.hid hadd
  have HP := Lib.hid hp
  clear h hp hk hl hsz htx hsub hadd hnm
  refine callsD_of_wpS Tryz.func29 rfl fun c₀ cs hu => ?_
  apply wpS_seq
  apply wpS_seq
  apply wpS_region
  simp [wpOpsS, go_sem, recoverD, hu, Tryz.ntmps29, Exit.thenS]
  refine wpS_of_wp ?_
  refine wp_via fun Q1 hQ1 => ?_
  have HQ1 := Lib.hid hQ1
  clear hQ1
  rw [show (#[Value.pointer (some ⟨gp, 0, none⟩), Value.pointer (some ⟨gb, 0, none⟩), Value.pointer (some ⟨gi, 0, none⟩), Value.pointer (some ⟨gn, 0, none⟩), Value.pointer (some ⟨gs, 0, none⟩)] ++ (Array.replicate 34 undef).setIfInBounds 3 (Value.iface 72 (.agg #[])) : Array Value) = #[Value.pointer (some ⟨gp, 0, none⟩), Value.pointer (some ⟨gb, 0, none⟩), Value.pointer (some ⟨gi, 0, none⟩), Value.pointer (some ⟨gn, 0, none⟩), Value.pointer (some ⟨gs, 0, none⟩), undef, undef, undef, (Value.iface 72 (.agg #[])), undef, undef, undef, undef, undef, undef, undef, undef, undef, undef, undef, undef, undef, undef, undef, undef, undef, undef, undef, undef, undef, undef, undef, undef, undef, undef, undef, undef, undef, undef] from by kernel_rfl]
  have HU := Lib.hid hu
  clear hu
  have ha := asserted_mal
  have hal : Below w.heap.size w (w.alloc (.cells #[] 72)) := (Below.refl _ _).alloc (Nat.le_refl _) _
  have hpa := HP.out.below hal
  have a1 : (w.alloc (.cells #[] 72)).cell? ⟨gp, 0, none⟩ = some (.pointer (some ⟨b, 0, none⟩)) := (hal.cell (p := ⟨gp, 0, none⟩) (cell_lt HBx.out.cp)).trans HBx.out.cp
  have a7 : (w.alloc (.cells #[] 72)).cell? ⟨b, 7, none⟩ = some (.int .i64 z) := hpa.cell 7 _ rfl
  have b7 := hpa.frz 7
  have hp1 := hpa.set 7 (.int .i64 400) { s with bad := 400 } q 400 lf rfl rfl rfl rfl rfl rfl (fun e => ⟨e, rfl⟩)
  have HP1 := Lib.hid hp1
  have HT1 := Lib.hid (show PTn b V V (fun x => x = gn ∨ x = gs) w ((w.alloc (.cells #[] 72)).setCell ⟨b, 7, none⟩ (.int .i64 400)) from (PTn.of hal).trans (PTn.set 7 _))
  have HB1 := Lib.hid (show Boxed b gp gb gi gn gs g t rest ((w.alloc (.cells #[] 72)).setCell ⟨b, 7, none⟩ (.int .i64 400)) from HBx.out.later hal 7 _)
  clear hal hpa hp1
  go_wp2_with fail
  generalize (w.alloc (.cells #[] 72)).setCell ⟨b, 7, none⟩ (.int .i64 400) = w1 at *
  clear a1 a7 b7
  refine HQ1.out _ _ _ ?_
  clear HQ1
  simp only [Exit.thenS]
  refine wpS_of_wp ?_
  obtain ⟨c1, c2, c3, c4, c5, f5, c6, f6, ⟨n1, n2, n3⟩, ⟨n4, n5, n6⟩, ⟨n7, n8, n9⟩, ⟨n10, n11, n12⟩, ⟨n13, n14, n15⟩⟩ := HB1.out
  have c7 : w1.cell? ⟨b, 7, none⟩ = some (.int .i64 400) := HP1.out.cell 7 _ rfl
  have c9 : w1.cell? ⟨b, 9, none⟩ = some (.int .i64 lf) := HP1.out.cell 9 _ rfl
  have f9 := HP1.out.frz 9
  rw [← HTx.out] at c4
  refine wp_via fun Q2 hQ2 => ?_
  have HQ2 := Lib.hid hQ2
  clear hQ2
  go_wp2_with fail
  have hsub := HSub.out
  have m1 := n1.symm
  have m2 := n2.symm
  have m4 := n4.symm
  have m5 := n5.symm
  have m7 := n7.symm
  have m8 := n8.symm
  have m10 := n10.symm
  have m11 := n11.symm
  have m13 := n13.symm
  have m14 := n14.symm
  have m15 := n15.symm
  (go_region_held3 (fun w' => w'.cell? ⟨gp, 0, none⟩ = some (.pointer (some ⟨b, 0, none⟩)) ∧ w'.cell? ⟨gb, 0, none⟩ = some (.string t) ∧ w'.cell? ⟨gi, 0, none⟩ = some (.pointer (some ⟨g, 0, none⟩)) ∧ w'.cell? ⟨g, 0, none⟩ = some (.string tx) ∧ w'.cell? ⟨b, 7, none⟩ = some (.int .i64 400)) (first | (refine ⟨?_, ?_, ?_, ?_, ?_⟩ <;> assumption) | go_keep) (first | fail))
  have HPW := Lib.hid (show Par B b { s with bad := 400 } q 400 lf V ((w1.setCell ⟨gn, 0, none⟩ (.int .i64 k)).setCell ⟨gs, 0, none⟩ (.int .i64 400)).drew from ((HP1.out.aside HNm.out.1 0 _).aside HNm.out.2 0 _).draws 1)
  have HTW := Lib.hid (show PTn b V V (fun x => x = gn ∨ x = gs) w1 ((w1.setCell ⟨gn, 0, none⟩ (.int .i64 k)).setCell ⟨gs, 0, none⟩ (.int .i64 400)).drew from (((PTn.refl).aside (.inl (.inl rfl)) 0 _).aside (.inl (.inr rfl)) 0 _).trans (PTn.draws 1))
  have y1 : ((w1.setCell ⟨gn, 0, none⟩ (.int .i64 k)).setCell ⟨gs, 0, none⟩ (.int .i64 400)).drew.cell? ⟨gp, 0, none⟩ = some (.pointer (some ⟨b, 0, none⟩)) := by
    show ((w1.setCell ⟨gn, 0, none⟩ (.int .i64 k)).setCell ⟨gs, 0, none⟩ (.int .i64 400)).cell? ⟨gp, 0, none⟩ = _
    rw [World.cell?_setCell_other _ _ _ _ (by intro e; injection e with e1 _ _; exact n2 e1.symm), World.cell?_setCell_other _ _ _ _ (by intro e; injection e with e1 _ _; exact n1 e1.symm)]; exact c1
  have yn : ((w1.setCell ⟨gn, 0, none⟩ (.int .i64 k)).setCell ⟨gs, 0, none⟩ (.int .i64 400)).drew.cell? ⟨gn, 0, none⟩ = some (.int .i64 k) := by
    show ((w1.setCell ⟨gn, 0, none⟩ (.int .i64 k)).setCell ⟨gs, 0, none⟩ (.int .i64 400)).cell? ⟨gn, 0, none⟩ = _
    rw [World.cell?_setCell_other _ _ _ _ (by intro e; injection e with e1 _ _; exact n13 e1.symm), World.cell?_setCell_same _ _ _ c5]
  have ys : ((w1.setCell ⟨gn, 0, none⟩ (.int .i64 k)).setCell ⟨gs, 0, none⟩ (.int .i64 400)).drew.cell? ⟨gs, 0, none⟩ = some (.int .i64 400) := by
    show ((w1.setCell ⟨gn, 0, none⟩ (.int .i64 k)).setCell ⟨gs, 0, none⟩ (.int .i64 400)).cell? ⟨gs, 0, none⟩ = _
    rw [World.cell?_setCell_same _ _ _ ((World.cell?_setCell_other _ _ _ _ (by intro e; injection e with e1 _ _; exact n13 e1)).trans c6)]
  have y9 : ((w1.setCell ⟨gn, 0, none⟩ (.int .i64 k)).setCell ⟨gs, 0, none⟩ (.int .i64 400)).drew.cell? ⟨b, 9, none⟩ = some (.int .i64 lf) := HPW.out.cell 9 _ rfl
  have g9 := HPW.out.frz 9
  have hadd := HAdd.out
  have HYn := Lib.hid (⟨yn, ys⟩ : _ ∧ _)
  clear hsub c1 c2 c3 c4 c5 c6 f5 f6 c7 c9 f9 HBx HB1 m1 m2 m4 m5 m7 m8 m10 m11 m13
  generalize ((w1.setCell ⟨gn, 0, none⟩ (.int .i64 k)).setCell ⟨gs, 0, none⟩ (.int .i64 400)).drew = W at *
  go_wp2_with fail
  go_region
  have HFin := Lib.hid (show FdPost B b { s with bad := 400 } q 400 lf V gn gs k w (W.setCell ⟨b, 9, none⟩ (.int .i64 ((lf : Int) + (k : Int)))).drew from by
    have h9 := HPW.out.set 9 (.int .i64 ((lf : Int) + (k : Int))) { s with bad := 400 } q 400 (lf + k) rfl rfl rfl rfl rfl rfl (fun e => ⟨e, rfl⟩)
    refine ⟨h9.draws 1, (HT1.out.trans (HTW.out.trans (PTn.set 9 _))).trans (PTn.draws 1), ?_, ?_⟩
    · exact (World.cell?_setCell_other _ _ _ _ (by intro e; injection e with e1 _ _; exact n14 e1.symm)).trans HYn.out.1
    · exact (World.cell?_setCell_other _ _ _ _ (by intro e; injection e with e1 _ _; exact n15 e1.symm)).trans HYn.out.2)
  refine HQ2.out _ _ _ ?_
  have hu := HU.out
  have hFin := HFin.out
  clear HQ2 HFin HU HYn HPW HTW HAdd HSub HTx HNm HP HP1 HT1 n1 n2 n3 n4 n5 n6 n7 n8 n9 n10 n11 n12 n13 n14 n15 m14 m15 hadd y1 yn ys y9 g9
  cases c₀
  simp_all [bodyPostS, results, Tryz.results29, go_sem]
end Tk
end Go.Proofs.YtomhpnkpmeindaaGreatDoor
namespace Go.Proofs.YtomhpnkpmeindaaGreatDoor
open Go.RowKit
namespace Tk

variable {B b : Nat} {s : Pr} {V : PV} {w : World}
theorem left_ite (p : Prop) [Decidable p] (a b : Pr) (x : Nat) (h1 : a.left = x) (h2 : b.left = x) : (if p then a else b).left = x := by split <;> assumption
theorem lineP_left (s : Pr) (t : Bs) : (lineP s t).left = s.left := by
  unfold lineP reqP staP fldP headEndP
  repeat' (first | apply left_ite | rfl)
theorem stepP_left (s : Pr) (c : UInt8) : (stepP s c).left = s.left + 1 := by
  have e : ∀ x : Pr, (x.ate 1).left = x.left + 1 := fun _ => rfl
  unfold stepP
  rw [e]
  congr 1
  unfold stepQ countP chunkP
  repeat' (first | apply left_ite | rfl | exact (lineP_left _ _).trans rfl)
theorem feedP_left : ∀ (l : Bs) (s : Pr), (feedP s l).2.left = s.left + (feedP s l).1
  | [], s => rfl
  | c :: t, s => by
    cases hs : stopP s
    · rw [feedP_cons s c t hs]
      have := feedP_left t (stepP s c)
      rw [stepP_left] at this
      show (feedP (stepP s c) t).2.left = s.left + ((feedP (stepP s c) t).1 + 1)
      omega
    · rw [feedP_stop s _ hs]; rfl
/-- a parser whose fields hold what it is -/
def Sync (B b : Nat) (s : Pr) (V : PV) (w : World) : Prop := ∃ q, q ≤ 7 ∧ (s.bad = 0 → q = s.mode) ∧ Par B b s q s.bad s.left V w
def SyncTo (B b : Nat) (s' : Pr) (V : PV) (w w' : World) : Prop := ∃ V', Sync B b s' V' w' ∧ PTn b V V' (fun _ => False) w w'
theorem masserted (v : Value) (xT : TypeId) (w : World) : (Instr.typeAssert (.iface 76 v) xT 76 true).run Tryz.prog w = .ok (.tuple #[v, .bool true]) w := by
  simp [Instr.typeAssert, run_underlying Tryz.underlying76]
theorem masserted_nil (xT : TypeId) (w : World) : (Instr.typeAssert .nilIface xT 76 true).run Tryz.prog w = .ok (.tuple #[.int .i64 0, .bool false]) w := by
  simp [Instr.typeAssert, run_underlying Tryz.underlying76]
theorem pstV_store (m : Nat) (a : Addr) (md : Mode) (w : World) : (store a (pstV m) md).run Tryz.prog w = stored Tryz.prog w a (pstV m) md :=
  run_store _ _ _ _ _ (by unfold pstV; split <;> rfl)
theorem res_pfeed (T : Array Value) (k : Nat) (v : Value) (h4 : k ≠ 4) (h5 : k ≠ 5) : results Tryz.f14 (T.setIfInBounds k v) = results Tryz.f14 T := by
  unfold results
  rw [Tryz.results14]
  simp [Array.getElem?_setIfInBounds_ne h4, Array.getElem?_setIfInBounds_ne h5]
theorem ppost_put {R : Ending → World → Prop} (k : Nat) (h4 : k ≠ 4) (h5 : k ≠ 5) (c : List PanicEntry) (a : Act) (v : Value) (w : World) (h : bodyPostD Tryz.prog Tryz.f14 R (.panic c) (a.put (some k) v) w) : bodyPostD Tryz.prog Tryz.f14 R (.panic c) a w :=
  leaves_tmps (res_pfeed a.tmps k v h4 h5) a.defers (.panicking c) w h
theorem pstV_form (m : Nat) : pstV m = .nilFunc ∨ ∃ F, pstV m = .func (.func F) #[] #[] := by
  unfold pstV; split <;> first | exact .inl rfl | exact .inr ⟨_, rfl⟩

theorem Boxed.turn {gp gb gi gn gs g : Nat} {t : ByteArray} {rest rest' : Bs} {V V' : PV} {w w' : World} (h : Boxed b gp gb gi gn gs g t rest w) (ht : PTn b V V' (· = g) w w') (hm : ∀ k, k = gp ∨ k = gb ∨ k = gi ∨ k = gn ∨ k = gs → ¬ PMine b V k ∧ k ≠ g) (hin : Inp g rest' w') : Boxed b gp gb gi gn gs g t rest' w' := by
  obtain ⟨c1, c2, c3, c4, c5, f5, c6, f6, h1, h2, h3, h4, h5⟩ := h
  have hk : ∀ (k : Nat) (v : Value), (¬ PMine b V k ∧ k ≠ g) → w.cell? ⟨k, 0, none⟩ = some v → w'.cell? ⟨k, 0, none⟩ = some v := fun k v hq hc => (ht.box ⟨cell_lt hc, hq.1⟩ hq.2 0).1.trans hc
  have hf : ∀ (k : Nat) (v : Value), (¬ PMine b V k ∧ k ≠ g) → w.cell? ⟨k, 0, none⟩ = some v → w.frozen? ⟨k, 0, none⟩ = false → w'.frozen? ⟨k, 0, none⟩ = false := fun k v hq hc hf => (ht.box ⟨cell_lt hc, hq.1⟩ hq.2 0).2.trans hf
  exact ⟨hk _ _ (hm _ (by simp)) c1, hk _ _ (hm _ (by simp)) c2, hk _ _ (hm _ (by simp)) c3, hin.cell, hk _ _ (hm _ (by simp)) c5, hf _ _ (hm _ (by simp)) c5 f5, hk _ _ (hm _ (by simp)) c6, hf _ _ (hm _ (by simp)) c6 f6, h1, h2, h3, h4, h5⟩
def feedW (b : Nat) (t : ByteArray) (w : World) : World := (((((w.alloc (.cells #[.pointer (some ⟨b, 0, none⟩)] 29)).alloc (.cells #[.string t] 9)).alloc (.cells #[.int .i64 0] 3)).alloc (.cells #[.int .i64 0] 3)).alloc (.cells #[.string t] 70)).alloc (.cells #[.pointer (some ⟨w.heap.size + 1 + 1 + 1 + 1, 0, none⟩)] 68)
theorem feedW_below (b : Nat) (t : ByteArray) (w : World) : Below w.heap.size w (feedW b t w) ∧ (feedW b t w).heap.size = w.heap.size + 6 :=
  ⟨((((((Below.refl _ _).alloc (Nat.le_refl _) _).alloc (by simp) _).alloc (by simp; omega) _).alloc (by simp; omega) _).alloc (by simp; omega) _).alloc (by simp; omega) _, by simp [feedW]⟩
theorem feedW_boxed (b : Nat) (t : ByteArray) (w : World) (hb : b < w.heap.size) : Boxed b w.heap.size (w.heap.size + 1) (w.heap.size + 1 + 1 + 1 + 1 + 1) (w.heap.size + 1 + 1) (w.heap.size + 1 + 1 + 1) (w.heap.size + 1 + 1 + 1 + 1) t (bs t) (feedW b t w) ∧ Inp (w.heap.size + 1 + 1 + 1 + 1) (bs t) (feedW b t w) := by
  refine ⟨⟨?_, ?_, ?_, ?_, ?_, ?_, ?_, ?_, by omega, by omega, by omega, by omega, by omega⟩, ?_⟩
  all_goals first
    | (unfold feedW; simp [go_sem]; done)
    | (unfold feedW; rw [mkS_bs]; simp [go_sem]; done)
    | skip
  unfold Inp feedW
  rw [mkS_bs]
  have h5 := heap_alloc_last ((((w.alloc (.cells #[.pointer (some ⟨b, 0, none⟩)] 29)).alloc (.cells #[.string t] 9)).alloc (.cells #[.int .i64 0] 3)).alloc (.cells #[.int .i64 0] 3)) (.cells #[.string t] 70)
  rw [show ((((w.alloc (.cells #[.pointer (some ⟨b, 0, none⟩)] 29)).alloc (.cells #[.string t] 9)).alloc (.cells #[.int .i64 0] 3)).alloc (.cells #[.int .i64 0] 3)).heap.size = w.heap.size + 1 + 1 + 1 + 1 by simp] at h5
  exact (Below.heap_alloc _ _ _ (by simp)).trans h5
theorem stepP_400 {s : Pr} (c : UInt8) (h : s.bad = 0) (h1 : (stepP s c).bad ≠ 0) (h2 : (stepP s c).mode ≠ 7) : (stepP s c).bad = 400 := by
  have hl : ∀ (x : Pr) (t : Bs), x.bad = 0 → (lineP x t).bad = 0 ∨ (lineP x t).mode = 7 := by
    intro x t hx
    unfold lineP reqP staP fldP
    repeat' split
    all_goals first | exact .inl hx | exact .inr rfl | exact headEnd_end x hx
  revert h1 h2
  unfold stepP
  show (stepQ s c).bad ≠ 0 → (stepQ s c).mode ≠ 7 → (stepQ s c).bad = 400
  unfold stepQ
  split
  · split
    · exact fun h1 => absurd h h1
    · split
      · intro h1 h2
        rcases hl { s with line := [], head := s.head + 1 } s.line.dropLast h with h3 | h3
        · exact absurd h3 h1
        · exact absurd h3 h2
      · split
        · exact fun _ h2 => absurd rfl h2
        · exact fun _ _ => rfl
  · split
    · unfold countP; split
      · exact fun h1 => absurd h h1
      · exact fun h1 => absurd h h1
    · split
      · split
        · exact fun _ h2 => absurd rfl h2
        · exact fun h1 => absurd h h1
      · split
        · unfold chunkP; split
          · exact fun _ h2 => absurd rfl h2
          · split
            · exact fun h1 => absurd h h1
            · exact fun h1 => absurd h h1
        · exact fun h1 => absurd h h1
theorem feedP_400 : ∀ (l : Bs) (s : Pr), s.bad = 0 → (feedP s l).2.bad ≠ 0 → (feedP s l).2.mode ≠ 7 → (feedP s l).2.bad = 400
  | [], s, h, h1, _ => absurd h h1
  | c :: t, s, h, h1, h2 => by
    cases hs : stopP s
    · rw [feedP_cons s c t hs] at h1 h2 ⊢
      by_cases hb : (stepP s c).bad = 0
      · exact feedP_400 t _ hb h1 h2
      · have hst : stopP (stepP s c) = true := by unfold stopP; simp [hb]
        rw [feedP_stop _ _ hst] at h1 h2 ⊢
        exact stepP_400 c h h1 h2
    · rw [feedP_stop s _ hs] at h1; exact absurd h h1
theorem consP_rq {s : Pr} {q : Nat} (hr : s.rsp = false) (hq : s.bad = 0 → q = s.mode) : consP s q s.bad = !stopP s := by
  unfold consP stopP
  rw [hr]
  by_cases hb : s.bad = 0
  · rw [hq hb]; simp [hb]
  · simp [hb]

set_option maxHeartbeats 16000000 in
set_option maxRecDepth 100000 in
theorem pfeed_any (t : ByteArray) (h : Sync B b s V w) (ho : s.Ok s.left) (hq : Rq s) (hn : s.left + t.size ≤ 100000) (hv : ErrV B w) :
    Calls Tryz.prog 14 #[ptr b, .string t] w fun e w' => e = .returned (.tuple #[.int .i64 (feedP s (bs t)).1, .int .i64 (feedP s (bs t)).2.bad]) ∧ SyncTo B b (feedP s (bs t)).2 V w w' := by
  have hmf : ∀ (fn : Fn) (first cap : Array Value) (w : World), (Instr.makeFunc fn first cap).run Tryz.prog w = .ok (.func fn first cap) w := fun _ _ _ _ => rfl
  have hb4 : Below w.heap.size w ((((w.alloc (.cells #[.pointer (some ⟨b, 0, none⟩)] 29)).alloc (.cells #[.string t] 9)).alloc (.cells #[.int .i64 0] 3)).alloc (.cells #[.int .i64 0] 3)) := ((((Below.refl _ _).alloc (Nat.le_refl _) _).alloc (by simp) _).alloc (by simp; omega) _).alloc (by simp; omega) _
  obtain ⟨q0, hq07, hq0, h⟩ := h
  have HQ0 := Lib.hid (⟨hq07, hq0⟩ : _ ∧ _)
  have HP := Lib.hid h
  have HMade := Lib.hid (pmade_any (h.below hb4))
  have HOk := Lib.hid (⟨ho, hq, hn, hv⟩ : _ ∧ _ ∧ _ ∧ _)
  clear h ho hq hn hv hb4 hq07 hq0
  unfold ptr at *
  go_enter_defers Tryz.func14, Tryz.ntmps14
  go_wp2_with fail
  refine HMade.out.mono ?_
  rintro e w' ⟨rfl, rfl⟩
  go_wp2_with fail
  clear HMade
  rw [show (((((w.alloc (.cells #[.pointer (some ⟨b, 0, none⟩)] 29)).alloc (.cells #[.string t] 9)).alloc (.cells #[.int .i64 0] 3)).alloc (.cells #[.int .i64 0] 3)).alloc (.cells #[.string t] 70)).alloc (.cells #[.pointer (some ⟨w.heap.size + 1 + 1 + 1 + 1, 0, none⟩)] 68) = feedW b t w from rfl]
  have HBx := Lib.hid (feedW_boxed b t w HP.out.lt)
  have HBw := Lib.hid (feedW_below b t w)
  have HNew := Lib.hid (show ∀ k, w.heap.size ≤ k → ¬ PMine b V k from fun k hk hm => by have := (HP.out.mineLt k hm).2; omega)
  have HP6 := Lib.hid (HP.out.below HBw.out.1)
  have HGe := Lib.hid (show ∀ k, (k = w.heap.size ∨ k = w.heap.size + 1 ∨ k = w.heap.size + 1 + 1 + 1 + 1 + 1 ∨ k = w.heap.size + 1 + 1 ∨ k = w.heap.size + 1 + 1 + 1) → ¬ PMine b V k ∧ k ≠ w.heap.size + 1 + 1 + 1 + 1 from fun k hk => ⟨HNew.out k (by omega), by omega⟩)
  have HGg := Lib.hid (show w.heap.size + 1 + 1 + 1 + 1 < (feedW b t w).heap.size ∧ ¬ PMine b V (w.heap.size + 1 + 1 + 1 + 1) from ⟨by rw [HBw.out.2]; omega, HNew.out _ (by omega)⟩)
  have HLe := Lib.hid (show ∀ k, (k = w.heap.size + 1 + 1 + 1 + 1 ∨ k = w.heap.size + 1 + 1 ∨ k = w.heap.size + 1 + 1 + 1) → w.heap.size ≤ k from fun k hk => by omega)
  generalize feedW b t w = W6 at *
  generalize w.heap.size + 1 + 1 + 1 + 1 + 1 = gi at *
  generalize w.heap.size + 1 + 1 + 1 + 1 = g at *
  generalize w.heap.size + 1 + 1 + 1 = gs at *
  generalize w.heap.size + 1 + 1 = gn at *
  generalize w.heap.size + 1 = gb at *
  generalize hgp : w.heap.size = gp at HBx HGe ⊢
  have HGp := Lib.hid hgp
  clear hgp
  have HLen := Lib.hid (length_bs t)
  go_loopw [7] (fun _ wr => ∃ (i : Nat) (si : Pr) (Vi : PV), i ≤ t.size ∧ Hid (EatsP s ((bs t).take i) si) ∧ (∃ q, Hid (q ≤ 7 ∧ (si.bad = 0 → q = si.mode)) ∧ Hid (Par B b si q si.bad s.left Vi wr)) ∧ Hid (PTn b V Vi (· = g) W6 wr) ∧ Hid (Inp g ((bs t).drop i) wr)) (fun _ wr => restLen g wr)
  case atStart => exact ⟨0, s, V, Nat.zero_le _, EatsP.nil s, ⟨q0, HQ0, HP6⟩, PTn.refl, HBx.out.2⟩
  case round =>
    obtain ⟨i, si, Vi, hi, HE, ⟨q, HQ, HD⟩, HT, HIn⟩ := hrel
    rename World => W
    have HBw2 := Lib.hid (HBx.out.1.turn HT.out HGe.out HIn.out)
    have hok := HE.out.ok HOk.out.1
    have HOki := Lib.hid hok
    have HRq := Lib.hid (HE.out.rq HOk.out.2.1)
    have HC := Lib.hid (pconsumes_any HD.out HQ.out.1)
    rw [consP_rq HRq.out.rq HQ.out.2] at HC
    have hkp := HBw2.out.cp
    have hki := HBw2.out.ci
    have hkr := HBw2.out.cr
    unfold ptr at HC
    clear hok
    by_cases hgo : i < t.size ∧ stopP si = false
    · obtain ⟨hlt, hst⟩ := hgo
      have hb0 := (not_stop hst).2.1
      have hqm := HQ.out.2 hb0
      have hEl : si.left = s.left + i := by
        have h1 := feedP_left ((bs t).take i) s
        have h2 := HE.out
        unfold EatsP at h2
        rw [h2] at h1
        simp only [List.length_take, HLen.out] at h1
        omega
      have hdl : ((bs t).drop i).length = t.size - i := by rw [List.length_drop, HLen.out]
      have hroom : Room si ((bs t).drop i) := ⟨by have := HOk.out.2.2.1; omega, by rw [hEl]; exact HOki.out.mono (by simp; omega), hst, HRq.out.rq⟩
      have hne0 : (bs t).drop i ≠ [] := by intro e; rw [e] at hdl; simp at hdl; omega
      have hD0 : Par B b si si.mode 0 s.left Vi W := by have := HD.out; rw [hqm, hb0] at this; exact this
      have hBel : Below B w W := (HBw.out.1.mono (by have := HP.out.hB; have := HP.out.lt; omega)).trans (HT.out.toBelow HP6.out (fun k e => by have h1 := HLe.out k (.inl e); have := HP.out.hB; have := HP.out.lt; omega))
      have hvW : ErrV B W := HOk.out.2.2.2.later hBel
      have hgm := HT.out.not_mine HGg.out
      obtain ⟨F, hF, hent, hc⟩ := pstate_any g ((bs t).drop i) (hD0.draws 1) (show Inp g ((bs t).drop i) (W.drewN 1) from HIn.out) hgm HRq.out hroom hne0 (errv_draws hvW 1)
      have k8 : W.cell? ⟨b, 8, none⟩ = some (.func (.func F) #[] #[]) := by rw [← hF]; exact hD0.cell 8 _ rfl
      have HCall := Lib.hid (show Calls Tryz.prog F #[.pointer (some ⟨b, 0, none⟩), .pointer (some ⟨g, 0, none⟩)] W.drew (StPost B b si si.mode s.left Vi g ((bs t).drop i) W.drew) from hc)
      have HRest := Lib.hid (restLen_of HIn.out)
      have HKk := Lib.hid (⟨hlt, hst, hb0, hdl⟩ : _ ∧ _ ∧ _ ∧ _)
      have hne : ((mkS ((bs t).drop i)).toList == ([] : List UInt8)) = false := by
        rw [toList_bs, bs_mkS]
        cases hd : (bs t).drop i with
        | nil => exact absurd hd hne0
        | cons a r => rfl
      rw [hst] at HC
      have HGm := Lib.hid hgm
      have HTW := Lib.hid (show PTn b V Vi (· = g) W6 W.drew from HT.out.trans (PTn.draws 1))
      clear hlt hst hb0 hqm hEl hdl hroom hne0 hD0 hBel hvW hc hF hi hgm
      obtain ⟨tx, htx⟩ : ∃ tx, tx = mkS ((bs t).drop i) := ⟨_, rfl⟩
      rw [← htx] at hne hkr
      clear htx
      go_wp2_with fail
      refine HC.out.mono ?_
      rintro e w2 ⟨rfl, rfl⟩
      go_wp2_with fail
      refine wp_region_held_drew (S := fun w' => w'.cell? ⟨gp, 0, none⟩ = some (.pointer (some ⟨b, 0, none⟩)) ∧ w'.cell? ⟨gi, 0, none⟩ = some (.pointer (some ⟨g, 0, none⟩))) (by kernel_rfl) ⟨hkp, hki⟩ (fun hHeld => ?_)
      refine wpAnyH_take (i := 0) (v := ?_) rfl (by kernel_rfl) (by kernel_rfl) (by kernel_rfl) (fun c a w h => ppost_put 28 (by decide) (by decide) c a _ w h) (Or.inl ⟨by rfl, ?_⟩) (by assumption) ?_
      case refine_2 => (intro w hSw; (try dsimp only at hSw); obtain ⟨hS1, hS2⟩ := hSw; go_simp; try with_reducible rfl)
      refine wpAnyH_take (i := 1) (v := ?_) rfl (by kernel_rfl) (by kernel_rfl) (by kernel_rfl) (fun c a w h => ppost_put 29 (by decide) (by decide) c a _ w h) (Or.inl ⟨by rfl, ?_⟩) (by assumption) ?_
      case refine_2 => (intro w hSw; (try dsimp only at hSw); obtain ⟨hS1, hS2⟩ := hSw; go_simp; try with_reducible rfl)
      refine wpAnyH_take (i := 2) (v := ?_) rfl (by kernel_rfl) (by kernel_rfl) (by kernel_rfl) (fun c a w h => ppost_put 30 (by decide) (by decide) c a _ w h) (Or.inl ⟨by rfl, ?_⟩) (by assumption) ?_
      case refine_2 => (intro w hSw; (try dsimp only at hSw); obtain ⟨hS1, hS2⟩ := hSw; go_simp; try with_reducible rfl)
      refine wpAnyH_take (i := 3) (v := ?_) rfl (by kernel_rfl) (by kernel_rfl) (by kernel_rfl) (fun c a w h => ppost_put 31 (by decide) (by decide) c a _ w h) (Or.inl ⟨by rfl, ?_⟩) (by assumption) ?_
      case refine_2 => (intro w hSw; (try dsimp only at hSw); obtain ⟨hS1, hS2⟩ := hSw; go_simp; try with_reducible rfl)
      refine wpAnyH_take (i := 5) (v := ?_) rfl (by kernel_rfl) (by kernel_rfl) (by kernel_rfl) (fun c a w h => ppost_put 33 (by decide) (by decide) c a _ w h) (Or.inl ⟨by rfl, ?_⟩) (by assumption) ?_
      case refine_2 => (intro w hSw; (try dsimp only at hSw); obtain ⟨hS1, hS2⟩ := hSw; go_simp; try with_reducible rfl)
      refine wpAnyH_take (i := 6) (v := ?_) rfl (by kernel_rfl) (by kernel_rfl) (by kernel_rfl) (fun c a w h => ppost_put 34 (by decide) (by decide) c a _ w h) (Or.inl ⟨by rfl, ?_⟩) (by assumption) ?_
      case refine_2 => (intro w hSw; (try dsimp only at hSw); obtain ⟨hS1, hS2⟩ := hSw; go_simp; try with_reducible rfl)
      refine wpAnyH_ready (rs := [4]) (by kernel_rfl) (by simp) ?_
      refine AllReadyH.cons rfl (fun K hK => ?_) AllReadyH.nil
      go_simp
      refine hK.out _ _ (by assumption) (fun hHeld2 => ?_)
      clear hK K hHeld
      refine wpAnyH_ready (rs := [7]) (by kernel_rfl) (by simp) ?_
      refine AllReadyH.cons rfl (fun K hK => ?_) AllReadyH.nil
      go_simp
      refine HCall.out.mono ?_
      rintro e w3 ⟨k, s2, hk1, hkl, hea, rfl, ⟨V2, hp2, ht2⟩, hin2⟩
      have HT2 := Lib.hid (HTW.out.trans ht2)
      have HE2 := Lib.hid (show EatsP s ((bs t).take (i + k)) s2 from by rw [List.take_add]; exact HE.out.append hea)
      have hbx := HBx.out.1.turn HT2.out HGe.out hin2
      have kp2 := hbx.cp
      have ki2 := hbx.ci
      have HBx2 := Lib.hid hbx
      have hdk : ((bs t).drop i).drop k = (bs t).drop (i + k) := by rw [List.drop_drop]
      have hik : i + k ≤ t.size := by have := HKk.out.2.2.2; omega
      have HIn2 := Lib.hid (show Inp g ((bs t).drop (i + k)) w3 by rw [← hdk]; exact hin2)
      have HP2 := Lib.hid hp2
      have HK1 := Lib.hid (⟨hk1, hik⟩ : _ ∧ _)
      have hS3 : (fun w' : World => w'.cell? ⟨gp, 0, none⟩ = some (.pointer (some ⟨b, 0, none⟩)) ∧ w'.cell? ⟨gi, 0, none⟩ = some (.pointer (some ⟨g, 0, none⟩))) w3 := ⟨kp2, ki2⟩
      dsimp only at hS3
      have j7 : w3.cell? ⟨b, 7, none⟩ = some (.int .i64 0) := HP2.out.cell 7 _ rfl
      have g7 := HP2.out.frz 7
      have j8 : w3.cell? ⟨b, 8, none⟩ = some (pstV si.mode) := HP2.out.cell 8 _ rfl
      have g8 := HP2.out.frz 8
      obtain ⟨u8, hu8⟩ : ∃ u, w3.cell? ⟨b, 8, none⟩ = some u := ⟨_, j8⟩
      have HB4 := Lib.hid (show s2.bad ≠ 0 → s2.mode ≠ 7 → s2.bad = 400 from fun h1 h2 => by
        have h3 := feedP_400 (((bs t).drop i).take k) si HKk.out.2.2.1
        unfold EatsP at hea
        rw [hea] at h3
        exact h3 h1 h2)
      rw [hdk] at HBx2
      clear j8 hp2 ht2 hin2 hea hdk hbx hk1 hkl hik
      have hgpb : gp ≠ b := HBx2.out.np.2.2
      have hgpb2 : b ≠ gp := fun e => hgpb e.symm
      by_cases hbad : s2.bad = 0
      · have hE : stE s2 = .returned (.tuple #[pstV s2.mode, .nilIface]) := by unfold stE; rw [if_pos hbad]
        rw [hE]
        have hst := pstV_store
        have hta := masserted_nil
        have HX := Lib.hid (show Hid (Par B b s2 s2.mode s2.bad s.left V2 (w3.setCell ⟨b, 8, none⟩ (pstV s2.mode))) ∧ Hid (PTn b V V2 (· = g) W6 (w3.setCell ⟨b, 8, none⟩ (pstV s2.mode))) ∧ Hid (Inp g ((bs t).drop (i + k)) (w3.setCell ⟨b, 8, none⟩ (pstV s2.mode))) from by
          refine ⟨?_, HT2.out.trans (PTn.set 8 _), ?_⟩
          · rw [hbad]; exact HP2.out.set 8 (pstV s2.mode) s2 s2.mode 0 s.left rfl rfl rfl rfl rfl rfl (fun e => ⟨e, rfl⟩)
          · have := HBx2.out.nr.2.2
            exact (show (w3.setCell ⟨b, 8, none⟩ (pstV s2.mode)).heap[g]? = _ from (Below.heap_setCell _ _ _ _ this).trans HIn2.out))
        have HM7 := Lib.hid (show s2.mode ≤ 7 from (HE2.out.ok HOk.out.1).fit.mode)
        clear hE hbad
        show K _ _
        refine hK.out _ _ (by assumption) (fun hHeld3 => ?_)
        clear hK K hHeld2
        generalize hmd : s2.mode = md at *
        have HMd := Lib.hid hmd
        clear hmd
        have hV := pstV_form md
        generalize hPV : pstV md = PVv at *
        have HPV := Lib.hid hPV
        clear hPV
        rcases hV with rfl | ⟨F2, rfl⟩
        all_goals
          refine wpAnyH_take (i := 8) (v := ?_) rfl (by kernel_rfl) (by kernel_rfl) (by kernel_rfl) (fun c a w h => ppost_put 27 (by decide) (by decide) c a _ w h) (Or.inl ⟨by rfl, ?_⟩) (by assumption) ?_
          case refine_2 => (intro w hSw; (try dsimp only at hSw); go_simp; try with_reducible rfl)
          refine wpAnyH_take (i := 9) (v := ?_) rfl (by kernel_rfl) (by kernel_rfl) (by kernel_rfl) (fun c a w h => ppost_put 36 (by decide) (by decide) c a _ w h) (Or.inl ⟨by rfl, ?_⟩) (by assumption) ?_
          case refine_2 => (intro w hSw; (try dsimp only at hSw); go_simp; try with_reducible rfl)
          refine wpAnyH_take (i := 10) (v := ?_) rfl (by kernel_rfl) (by kernel_rfl) (by kernel_rfl) (fun c a w h => ppost_put 37 (by decide) (by decide) c a _ w h) (Or.inl ⟨by rfl, ?_⟩) (by assumption) ?_
          case refine_2 => (intro w hSw; (try dsimp only at hSw); go_simp; try with_reducible rfl)
          refine wpAnyH_ready (rs := [11]) (by kernel_rfl) (by simp) ?_
          refine AllReadyH.cons rfl (fun K hK => ?_) AllReadyH.nil
          go_simp
          refine hK.out _ _ (by assumption) (fun hHeld4 => ?_)
          clear hK K
          refine wpAnyH_ready (rs := [12]) (by kernel_rfl) (by simp) ?_
          refine AllReadyH.cons rfl (fun K hK => ?_) AllReadyH.nil
          go_simp
          refine hK.out _ _ (by assumption) (fun hHeld5 => ?_)
          clear hK K
          refine wpAnyH_done (by kernel_rfl) ?_ _
          go_wp2_with fail
          exact ⟨⟨i + k, s2, V2, HK1.out.2, HE2, ⟨md, Lib.hid ⟨HM7.out, fun _ => HMd.out.symm⟩, HX.out.1⟩, HX.out.2.1, HX.out.2.2⟩, by rw [HRest.out, restLen_of HX.out.2.2.out]; have h1 := HKk.out.2.2.2; have h2 := HK1.out; simp only [List.length_drop, HLen.out] at *; omega⟩
      · by_cases hm7 : s2.mode = 7
        · have hE : stE s2 = .returned (.tuple #[.nilFunc, flV s2.bad]) := by unfold stE; rw [if_neg hbad, if_pos hm7]
          rw [hE]
          have hta := masserted
          have HX := Lib.hid (show Hid (Par B b s2 7 s2.bad s.left V2 ((w3.setCell ⟨b, 7, none⟩ (.int .i64 s2.bad)).setCell ⟨b, 8, none⟩ .nilFunc)) ∧ Hid (PTn b V V2 (· = g) W6 ((w3.setCell ⟨b, 7, none⟩ (.int .i64 s2.bad)).setCell ⟨b, 8, none⟩ .nilFunc)) ∧ Hid (Inp g ((bs t).drop (i + k)) ((w3.setCell ⟨b, 7, none⟩ (.int .i64 s2.bad)).setCell ⟨b, 8, none⟩ .nilFunc)) from by
            refine ⟨(HP2.out.set 7 (.int .i64 s2.bad) s2 si.mode s2.bad s.left rfl rfl rfl rfl rfl rfl (fun e => ⟨e, rfl⟩)).set 8 .nilFunc s2 7 s2.bad s.left rfl rfl rfl rfl rfl rfl (fun e => ⟨e, rfl⟩), (HT2.out.trans (PTn.set 7 _)).trans (PTn.set 8 _), ?_⟩
            have := HBx2.out.nr.2.2
            exact (Below.heap_setCell _ _ _ _ this).trans ((Below.heap_setCell _ _ _ _ this).trans HIn2.out))
          have HBad := Lib.hid hbad
          clear hE hbad hm7
          generalize hbd : s2.bad = bd at *
          have HBd := Lib.hid hbd
          clear hbd
          show K _ _
          refine hK.out _ _ (by assumption) (fun hHeld3 => ?_)
          clear hK K hHeld2
          unfold flV at *
          refine wpAnyH_take (i := 8) (v := ?_) rfl (by kernel_rfl) (by kernel_rfl) (by kernel_rfl) (fun c a w h => ppost_put 27 (by decide) (by decide) c a _ w h) (Or.inl ⟨by rfl, ?_⟩) (by assumption) ?_
          case refine_2 => (intro w hSw; (try dsimp only at hSw); go_simp; try with_reducible rfl)
          refine wpAnyH_take (i := 9) (v := ?_) rfl (by kernel_rfl) (by kernel_rfl) (by kernel_rfl) (fun c a w h => ppost_put 36 (by decide) (by decide) c a _ w h) (Or.inl ⟨by rfl, ?_⟩) (by assumption) ?_
          case refine_2 => (intro w hSw; (try dsimp only at hSw); go_simp; try with_reducible rfl)
          refine wpAnyH_take (i := 10) (v := ?_) rfl (by kernel_rfl) (by kernel_rfl) (by kernel_rfl) (fun c a w h => ppost_put 37 (by decide) (by decide) c a _ w h) (Or.inl ⟨by rfl, ?_⟩) (by assumption) ?_
          case refine_2 => (intro w hSw; (try dsimp only at hSw); go_simp; try with_reducible rfl)
          refine wpAnyH_ready (rs := [11]) (by kernel_rfl) (by simp) ?_
          refine AllReadyH.cons rfl (fun K hK => ?_) AllReadyH.nil
          go_simp
          refine hK.out _ _ (by assumption) (fun hHeld4 => ?_)
          clear hK K
          refine wpAnyH_ready (rs := [12]) (by kernel_rfl) (by simp) ?_
          refine AllReadyH.cons rfl (fun K hK => ?_) AllReadyH.nil
          go_simp
          refine hK.out _ _ (by assumption) (fun hHeld5 => ?_)
          clear hK K
          refine wpAnyH_done (by kernel_rfl) ?_ _
          go_wp2_with fail
          exact ⟨⟨i + k, s2, V2, HK1.out.2, HE2, ⟨7, Lib.hid ⟨Nat.le_refl _, fun e => absurd (HBd.out.symm.trans e) HBad.out⟩, by rw [HBd.out]; exact HX.out.1⟩, HX.out.2.1, HX.out.2.2⟩, by rw [HRest.out, restLen_of HX.out.2.2.out]; have h1 := HKk.out.2.2.2; have h2 := HK1.out; simp only [List.length_drop, HLen.out] at *; omega⟩
        · have hE : stE s2 = .panicked malP := by unfold stE; rw [if_neg hbad, if_neg hm7]
          rw [hE]
          have h400 := HB4.out hbad hm7
          have hs2 : ({ s2 with bad := 400 } : Pr) = s2 := by rw [← h400]
          have hstop : stopP s2 = true := by unfold stopP; simp [hbad]
          have hfin : feedP s (bs t) = (i + k, s2) := by
            have := HE2.out.feed (k := i + k) (by rw [HLen.out]; exact HK1.out.2)
            rw [feedP_stop s2 _ hstop] at this
            simpa using this
          have hlen : t.size = i + k + ((bs t).drop (i + k)).length := by rw [List.length_drop, HLen.out]; have := HK1.out.2; omega
          have hnm2 : ¬ PMine b V2 gn ∧ ¬ PMine b V2 gs := ⟨HT2.out.not_mine ⟨cell_lt HBx.out.1.cn, (HGe.out gn (by simp)).1⟩, HT2.out.not_mine ⟨cell_lt HBx.out.1.cs, (HGe.out gs (by simp)).1⟩⟩
          have hEnd := feedEnd_mal gp gb gi gn gs g t ((bs t).drop (i + k)) (i + k) HBx2.out HP2.out hlen (by have := HOk.out.2.2.1; omega) hnm2
          rw [hs2] at hEnd
          have hqb : si.mode ≤ 7 := HOki.out.fit.mode
          have HDone := Lib.hid (show ∀ w2, FdPost B b s2 si.mode 400 s.left V2 gn gs (i + k) w3 w2 → SyncTo B b s2 V w w2 from fun w2 hf => by
            obtain ⟨f1, f2, f3, f4⟩ := hf
            have hl := feedP_left (bs t) s
            rw [hfin] at hl
            refine ⟨V2, ⟨si.mode, hqb, fun e => absurd e hbad, by show Par B b s2 si.mode s2.bad s2.left V2 w2; rw [hl, h400]; exact f1⟩, ?_⟩
            have h1 : PTn b V V (fun k => k = g ∨ k = gn ∨ k = gs) w W6 := PTn.of (by rw [HGp.out]; rw [HGp.out] at HBw; exact HBw.out.1)
            have h2 := HT2.out.mono (Y := fun k => k = g ∨ k = gn ∨ k = gs) (fun k _ e => .inl e)
            have h3 := f2.mono (Y := fun k => k = g ∨ k = gn ∨ k = gs) (fun k _ e => .inr e)
            exact ((h1.trans h2).trans h3).mono (fun k hk e => by have := HLe.out k e; omega))
          show Leaves _ _ _ _ _ _ _
          rw [hfin]
          refine leaves_cons (f := 29) (args := #[.pointer (some ⟨gp, 0, none⟩), .pointer (some ⟨gb, 0, none⟩), .pointer (some ⟨gi, 0, none⟩), .pointer (some ⟨gn, 0, none⟩), .pointer (some ⟨gs, 0, none⟩)]) (by simp) (by simp [go_sem]) ?_
          refine hEnd.mono ?_
          rintro e u' w4 ⟨rfl, rfl, hFd⟩
          have k1 := hFd.2.2.1
          have k2 := hFd.2.2.2
          have hD := HDone.out _ hFd
          simp [Leaves, settle, results, Tryz.results14, go_sem, k1, k2, h400]
          exact hD
    · -- the end
      have hend : stopP si = true ∨ i = (bs t).length := by
        rw [HLen.out]
        by_cases h1 : i < t.size
        · left; cases hs : stopP si
          · exact absurd ⟨h1, hs⟩ hgo
          · rfl
        · right; omega
      have hfin : feedP s (bs t) = (i, si) := by
        rcases hend with hs | hs
        · have := HE.out.feed (k := i) (by rw [HLen.out]; exact hi)
          rw [feedP_stop si _ hs] at this
          simpa using this
        · have := HE.out
          unfold EatsP at this
          rw [hs, List.take_length] at this
          rw [this, hs]
      have HFin := Lib.hid hfin
      have hlen : t.size = i + ((bs t).drop i).length := by rw [List.length_drop, HLen.out]; omega
      have hnm2 : ¬ PMine b Vi gn ∧ ¬ PMine b Vi gs := ⟨HT.out.not_mine ⟨cell_lt HBx.out.1.cn, (HGe.out gn (by simp)).1⟩, HT.out.not_mine ⟨cell_lt HBx.out.1.cs, (HGe.out gs (by simp)).1⟩⟩
      have HEnd := Lib.hid (feedEnd_idle gp gb gi gn gs g t ((bs t).drop i) i HBw2.out HD.out hlen (by have := HOk.out.2.2.1; omega) hnm2)
      have HDone := Lib.hid (show ∀ w2, FdPost B b si q si.bad s.left Vi gn gs i W w2 → SyncTo B b (feedP s (bs t)).2 V w w2 from fun w2 hf => by
        obtain ⟨f1, f2, f3, f4⟩ := hf
        have hl := feedP_left (bs t) s
        rw [HFin.out] at hl ⊢
        refine ⟨Vi, ⟨q, HQ.out.1, HQ.out.2, by show Par B b si q si.bad si.left Vi w2; rw [hl]; exact f1⟩, ?_⟩
        have h1 : PTn b V V (fun k => k = g ∨ k = gn ∨ k = gs) w W6 := PTn.of (by rw [HGp.out]; rw [HGp.out] at HBw; exact HBw.out.1)
        have h2 := HT.out.mono (Y := fun k => k = g ∨ k = gn ∨ k = gs) (fun k _ e => .inl e)
        have h3 := f2.mono (Y := fun k => k = g ∨ k = gn ∨ k = gs) (fun k _ e => .inr e)
        exact ((h1.trans h2).trans h3).mono (fun k hk e => by have := HLe.out k e; omega))
      rw [HFin.out] at HDone
      by_cases hlt : i < t.size
      · have hst : stopP si = true := by rcases hend with h1 | h1; exact h1; rw [HLen.out] at h1; omega
        rw [hst] at HC
        have hne : ((mkS ((bs t).drop i)).toList == ([] : List UInt8)) = false := by
          rw [toList_bs, bs_mkS]
          cases hd : (bs t).drop i with
          | nil => have := congrArg List.length hd; rw [List.length_drop, HLen.out] at this; simp at this; omega
          | cons a r => rfl
        clear hend hfin hlen hnm2 hst hgo hlt hi
        generalize mkS ((bs t).drop i) = tx at *
        go_wp2_with fail
        refine HC.out.mono ?_
        rintro e w2 ⟨rfl, rfl⟩
        go_wp2_with fail
        rw [HFin.out]
        refine leaves_cons (f := 29) (args := #[.pointer (some ⟨gp, 0, none⟩), .pointer (some ⟨gb, 0, none⟩), .pointer (some ⟨gi, 0, none⟩), .pointer (some ⟨gn, 0, none⟩), .pointer (some ⟨gs, 0, none⟩)]) (by simp) (by simp [go_sem]) ?_
        refine HEnd.out.mono ?_
        rintro e u' w3 ⟨rfl, rfl, hF⟩
        have k1 := hF.2.2.1
        have k2 := hF.2.2.2
        simp [Leaves, settle, results, Tryz.results14, go_sem, k1, k2]
        exact HDone.out _ hF
      · have hit : i = t.size := by omega
        have hdr : (bs t).drop i = [] := by rw [hit, ← HLen.out]; exact List.drop_length
        have hkr2 : W.cell? ⟨g, 0, none⟩ = some (.string ⟨#[]⟩) := by rw [hkr, hdr]; rfl
        clear hend hfin hlen hnm2 hgo hlt hi hit hdr hkr
        go_wp2_with fail
        rw [HFin.out]
        refine leaves_cons (f := 29) (args := #[.pointer (some ⟨gp, 0, none⟩), .pointer (some ⟨gb, 0, none⟩), .pointer (some ⟨gi, 0, none⟩), .pointer (some ⟨gn, 0, none⟩), .pointer (some ⟨gs, 0, none⟩)]) (by simp) (by simp [go_sem]) ?_
        refine HEnd.out.mono ?_
        rintro e u' w3 ⟨rfl, rfl, hF⟩
        have k1 := hF.2.2.1
        have k2 := hF.2.2.2
        simp [Leaves, settle, results, Tryz.results14, go_sem, k1, k2]
        exact HDone.out _ hF
end Tk
end Go.Proofs.YtomhpnkpmeindaaGreatDoor
namespace Go.Proofs.YtomhpnkpmeindaaGreatDoor
open Go.RowKit
namespace Tk

variable {B b : Nat} {s : Pr} {q z lf : Nat} {V : PV} {w : World}
set_option maxHeartbeats 4000000 in
set_option maxRecDepth 100000 in
theorem pparser_any (L H C M : Int) (l h c m : Nat) (B : Nat) (w : World) (hB : B ≤ w.heap.size) (hl : max L 0 = l) (hh : max H 0 = h) (hc : max C 0 = c) (hm : max M 0 = m) :
    Calls Tryz.prog 27 #[.agg #[.int .i64 L, .int .i64 H, .int .i64 C, .int .i64 M], .bool false] w fun e w' => ∃ b V, e = .returned (ptr b) ∧ w.heap.size ≤ b ∧ Sync B b (newP l h c m false) V w' ∧ Below w.heap.size w w' := by
  have hbegin : ∀ W, Par B (w.heap.size + 1) { L := l, H := h, C := c, M := m, mode := 7 } 7 0 0 (pvNil (.slice none 0 0)) W → Calls Tryz.prog 32 #[.pointer (some ⟨w.heap.size + 1, 0, none⟩)] W fun e w' => e = .returned (.tuple #[]) ∧ Par B (w.heap.size + 1) (newP l h c m false) 0 0 0 (pvNil (.slice none 0 0)) w' ∧ PTn (w.heap.size + 1) (pvNil (.slice none 0 0)) (pvNil (.slice none 0 0)) (fun _ => False) W w' := fun W hp => pbegin_any hp
  have HBg := Lib.hid hbegin
  clear hbegin
  go_enter Tryz.func27, Tryz.ntmps27
  go_wp2_with fail
  refine (HBg.out _ ?_).mono ?_
  · have hblk := heap_alloc_last (w.alloc (.cells #[.int .i64 L, .int .i64 H, .int .i64 C, .int .i64 M] 23)) (.cells (pcells (w.heap.size + 1) { L := l, H := h, C := c, M := m, mode := 7 } 7 0 0 (pvNil (.slice none 0 0))) 67)
    rw [show (w.alloc (.cells #[.int .i64 L, .int .i64 H, .int .i64 C, .int .i64 M] 23)).heap.size = w.heap.size + 1 by simp] at hblk
    exact ⟨by omega, hblk, World.ownsRow_nil _ _ _ _, World.ownsRow_nil _ _ _ _, World.ownsRow_nil _ _ _ _, World.ownsRow_nil _ _ _ _, World.ownsRow_nil _ _ _ _, (fun k hk => by cases hk), (fun k hk => by cases hk), (fun hm => by cases hm), (by rintro k ⟨bd, hd, -⟩; cases hd), (by rintro k ⟨bd, hd, -⟩; cases hd)⟩
  rintro e w2 ⟨rfl, hp, ht⟩
  go_wp2_with fail
  go_ret
  refine ⟨w.heap.size + 1, pvNil (.slice none 0 0), rfl, by omega, ⟨0, by omega, fun _ => rfl, hp⟩, ?_⟩
  refine (((Below.refl _ _).alloc (Nat.le_refl _) _).alloc (by simp) _).trans ⟨ht.os, ht.tape, ht.output, ht.size, fun k hk => ht.block k (by simp at hk ⊢; omega) ?_ (fun e => e)⟩
  rintro ((e | e | e | e | e | e) | ⟨bd, hd, -⟩)
  · omega
  all_goals first | (cases e; done) | (cases hd; done)
set_option maxHeartbeats 1000000 in
set_option maxRecDepth 100000 in
theorem prequests_any (L H C M : Int) (l h c m : Nat) (B : Nat) (w : World) (hB : B ≤ w.heap.size) (hl : max L 0 = l) (hh : max H 0 = h) (hc : max C 0 = c) (hm : max M 0 = m) :
    Calls Tryz.prog 11 #[.agg #[.int .i64 L, .int .i64 H, .int .i64 C, .int .i64 M]] w fun e w' => ∃ b V, e = .returned (ptr b) ∧ w.heap.size ≤ b ∧ Sync B b (newP l h c m false) V w' ∧ Below w.heap.size w w' := by
  have hb0 : Below w.heap.size w (w.alloc (.cells #[.int .i64 L, .int .i64 H, .int .i64 C, .int .i64 M] 23)) := (Below.refl _ _).alloc (Nat.le_refl _) _
  have HP := Lib.hid (pparser_any L H C M l h c m B (w.alloc (.cells #[.int .i64 L, .int .i64 H, .int .i64 C, .int .i64 M] 23)) (Nat.le_trans hB hb0.size) hl hh hc hm)
  have HB0 := Lib.hid hb0
  clear hb0 hB hl hh hc hm
  go_enter Tryz.func11, Tryz.ntmps11
  go_wp2_with fail
  refine HP.out.mono ?_
  rintro e w2 ⟨b, V, rfl, h1, h2, h3⟩
  unfold ptr
  go_wp2
  go_ret
  exact ⟨b, V, rfl, Nat.le_trans HB0.out.size h1, h2, HB0.out.trans (h3.mono HB0.out.size)⟩

set_option maxHeartbeats 4000000 in
set_option maxRecDepth 100000 in
/-- a parser of requests begins anew, and nothing but its block is turned -/
theorem pbeginR_any (h : Par B b s q z lf V w) (hr : s.rsp = false) :
    Calls Tryz.prog 32 #[ptr b] w fun e w' => e = .returned (.tuple #[]) ∧ Par B b (zeroP s) 0 z 0 (pvNil V.m) w' ∧ PTn b V (pvNil V.m) (fun _ => False) w w' ∧ (∀ k, k ≠ b → w'.heap[k]? = w.heap[k]?) := by
  have hblk := h.blk
  have ht := there_of_blk hblk 8 16 (by show 24 ≤ 24; omega)
  have hB2 := setCells_blk b 67 (zeroL 0) 8 w _ hblk (by show 24 ≤ 24; omega)
  have c5 : (w.setCells b 8 (zeroL 0)).cell? ⟨b, 5, none⟩ = some (.bool s.rsp) := by rw [Lib.cell_of_heap hB2]; rfl
  have hq := setCells_rest b (zeroL 0) 8 w
  have hoth := setCells_other b (zeroL 0) 8 w
  have HQ := Lib.hid hq
  have HO := Lib.hid hoth
  have HB2 := Lib.hid hB2
  have H := Lib.hid h
  have HT := Lib.hid ht
  clear h hq hoth hB2 hblk ht
  generalize hW : w.setCells b 8 (zeroL 0) = W1 at *
  have HW := Lib.hid hW
  unfold ptr
  clear hW
  rw [hr] at c5
  have HR := Lib.hid hr
  clear hr
  go_enter Tryz.func32, Tryz.ntmps32
  go_wp2_with (refine wpList_store_to rfl 65 _ _ rfl b 8 (zeroL 0).toArray rfl rfl HT.out (by kernel_rfl) (all_oneCell_toArray (List.all_eq_true.1 (show (zeroL 0).all (·.oneCell') = true from rfl))) HW.out ?_)
  refine bodyPost_end (v := .tuple #[]) ?_ rfl ?_
  · simp [results, Tryz.results32, go_sem]
  · show _ ∧ _
    have hp := fun h4 => H.out.renew (X := fun _ => False) (w' := W1) HO.out HQ.out.1 HQ.out.2 h4
    rw [HR.out] at hp
    simp only [Bool.false_eq_true, if_false] at hp
    have hp2 := hp (HB2.out.trans (by unfold pcells zeroP pvNil; rw [HR.out]; rfl))
    exact ⟨rfl, hp2.1, hp2.2, HO.out⟩

theorem bodyPost_at {P : Program} {fn : Func} {R : Ending → World → Prop} {a : Act} {x : Exit} {w W : World} (hW : w = W) (h : bodyPost P fn R x a W) : bodyPost P fn R x a w := hW ▸ h
def nxZ : List Value := [.string ⟨#[]⟩, .string ⟨#[]⟩, .int .i64 0, .string ⟨#[]⟩, .int .i64 0, .slice none 0 0, .string ⟨#[]⟩, .slice none 0 0]
/-- what Next leaves: a message whose rows are its own -/
def NxPost (B b : Nat) (s : Pr) (V : PV) (w w' : World) : Prop := ∃ V', Sync B b s.fresh V' w' ∧ PTn b V V' (fun _ => False) w w' ∧ (∀ k, V.f.ownBlock = some k ∨ V.t.ownBlock = some k → ¬ PMine b V' k ∧ w'.heap[k]? = w.heap[k]?)
theorem NxPost.of {wA wB wC : World} (h : Par B b s 7 0 s.left V w) (hr : s.rsp = false) (hb0 : s.bad = 0) (hA : Below w.heap.size w wA) (h1 : Par B b (zeroP s) 0 0 0 (pvNil V.m) wB) (h2 : PTn b V (pvNil V.m) (fun _ => False) wA wB) (h3 : ∀ k, k ≠ b → wB.heap[k]? = wA.heap[k]?) (hC : Below w.heap.size wB wC) : NxPost B b s V w wC := by
  have hz : zeroP s = s.fresh := by unfold zeroP Pr.fresh; rw [hr, hb0]; rfl
  obtain ⟨n1, n2, n3, n4, n5⟩ := h.neB
  have hmine : ∀ k, PMine b (pvNil V.m) k → k = b ∨ V.m.ownBlock = some k := by
    rintro k ((e | e | e | e | e | e) | ⟨bd, hd, -⟩)
    · exact .inl e
    · exact .inr e
    all_goals first | (cases e; done) | (cases hd; done)
  have hml : ∀ k, PMine b (pvNil V.m) k → k < w.heap.size := fun k hk => by
    rcases hmine k hk with rfl | hk
    · exact h.lt
    · exact (h.meth.lt k hk).2
  have hP := (PTn.of (b := b) (V := V) (X := fun _ => False) hA).trans h2
  refine ⟨pvNil V.m, ⟨0, by omega, fun _ => ?_, ?_⟩, ⟨hC.os.trans hP.os, hC.tape.trans hP.tape, hC.output.trans hP.output, Nat.le_trans hP.size hC.size, fun k hk hm hx => (hC.block k hk).trans (hP.block k hk hm hx), hP.new⟩, fun k hk => ⟨fun hm => ?_, ?_⟩⟩
  · unfold Pr.fresh; rw [hr]; rfl
  · have e1 : s.fresh.bad = 0 := rfl
    have e2 : s.fresh.left = 0 := rfl
    rw [e1, e2, ← hz]
    exact h1.same hC.size fun k hk => hC.block k (hml k hk)
  · rcases hmine k hm with rfl | e
    · rcases hk with hk | hk
      · exact n3 hk
      · exact n4 hk
    · rcases hk with hk | hk
      · exact own_ne2 h.flds h.meth (by decide) k e hk
      · exact own_ne2 h.trl h.meth (by decide) k e hk
  · have hkl : k < w.heap.size := by rcases hk with hk | hk; exact (h.flds.lt k hk).2; exact (h.trl.lt k hk).2
    refine (hC.block k hkl).trans ((h3 k ?_).trans (hA.block k hkl))
    rintro rfl; rcases hk with hk | hk
    · exact n3 hk
    · exact n4 hk
set_option maxHeartbeats 4000000 in
set_option maxRecDepth 100000 in
theorem pnext_any (h : Sync B b s V w) (hr : s.rsp = false) (hw : waitP s = true) :
    Calls Tryz.prog 15 #[ptr b] w fun e w' => e = .returned (.tuple #[.agg (msgL s.msg V.f V.t).toArray, .bool true]) ∧ NxPost B b s V w w' := by
  obtain ⟨q, hq, hqm, h⟩ := h
  have hb0 : s.bad = 0 := by unfold waitP at hw; simp at hw; exact hw.2
  have hm7 : s.mode = 7 := by unfold waitP at hw; simp at hw; exact hw.1
  have hq7 : q = 7 := (hqm hb0).trans hm7
  subst hq7
  rw [hb0] at h
  obtain ⟨Z, hZ⟩ : ∃ Z, Z = w.alloc (.cells nxZ.toArray 37) := ⟨_, rfl⟩
  have hZb : Below w.heap.size w Z := by rw [hZ]; exact (Below.refl _ _).alloc (Nat.le_refl _) _
  have HM := Lib.hid (pmade_any (h.below hZb))
  have HW := Lib.hid (pwaits_any (h.below hZb) (Nat.le_refl 7))
  have HZ := Lib.hid hZ
  have HZb := Lib.hid hZb
  have HBg := Lib.hid (fun (W : World) (hb : Below w.heap.size w W) => pbeginR_any (h.below hb) hr)
  have H := Lib.hid h
  replace h := h.below hZb
  have hlt := h.lt
  have hlt1 : b ≠ Z.heap.size := by omega
  have hlt2 : Z.heap.size ≠ b := by omega
  have c5 : Z.cell? ⟨b, 5, none⟩ = some (.bool s.rsp) := h.cell 5 _ rfl
  rw [hr] at c5
  have c12 : Z.cell? ⟨b, 12, none⟩ = some (.string (mkS s.msg.m)) := h.cell 12 _ rfl
  have c13 : Z.cell? ⟨b, 13, none⟩ = some (.string (mkS s.msg.t)) := h.cell 13 _ rfl
  have c14 : Z.cell? ⟨b, 14, none⟩ = some (.int .i64 s.msg.st) := h.cell 14 _ rfl
  have c15 : Z.cell? ⟨b, 15, none⟩ = some (.string (mkS s.msg.r)) := h.cell 15 _ rfl
  have c16 : Z.cell? ⟨b, 16, none⟩ = some (.int .i64 s.msg.mi) := h.cell 16 _ rfl
  have c17 : Z.cell? ⟨b, 17, none⟩ = some V.f := h.cell 17 _ rfl
  have c18 : Z.cell? ⟨b, 18, none⟩ = some (.string (mkS s.msg.body)) := h.cell 18 _ rfl
  have c19 : Z.cell? ⟨b, 19, none⟩ = some V.t := h.cell 19 _ rfl
  obtain ⟨a1, k1, hvf⟩ : ∃ a c, V.f = .slice a s.msg.f.length c := by obtain ⟨a, c, hv, -⟩ := isFlds_own h.flds; exact ⟨a, c, hv⟩
  obtain ⟨a2, k2, hvt⟩ : ∃ a c, V.t = .slice a s.msg.tr.length c := by obtain ⟨a, c, hv, -⟩ := isFlds_own h.trl; exact ⟨a, c, hv⟩
  have HVf := Lib.hid hvf
  have HVt := Lib.hid hvt
  rw [hvf] at c17
  rw [hvt] at c19
  have HR := Lib.hid (⟨hr, hb0, hm7⟩ : _ ∧ _ ∧ _)
  have HE : Hid (msgL s.msg V.f V.t = [.string (mkS s.msg.m), .string (mkS s.msg.t), .int .i64 s.msg.st, .string (mkS s.msg.r), .int .i64 s.msg.mi, .slice a1 s.msg.f.length k1, .string (mkS s.msg.body), .slice a2 s.msg.tr.length k2]) := Lib.hid (by unfold msgL; rw [hvf, hvt])
  clear h hr hb0 hm7 hw hqm hq hvf hvt hZb
  rw [HE.out]
  clear HE
  generalize mkS s.msg.m = x0 at *
  generalize mkS s.msg.t = x1 at *
  generalize mkS s.msg.r = x3 at *
  generalize mkS s.msg.body = x6 at *
  generalize s.msg.f.length = n1 at *
  generalize s.msg.tr.length = n2 at *
  unfold ptr at *
  go_enter Tryz.func15, Tryz.ntmps15
  go_wp2_with fail
  rw [show w.alloc (.cells #[.string ⟨#[]⟩, .string ⟨#[]⟩, .int .i64 0, .string ⟨#[]⟩, .int .i64 0, .slice none 0 0, .string ⟨#[]⟩, .slice none 0 0] 37) = Z from hZ.symm]
  clear hZ
  refine HM.out.mono ?_
  rintro e w' ⟨rfl, rfl⟩
  go_wp2_with fail
  refine HW.out.mono ?_
  rintro e w' ⟨rfl, rfl⟩
  go_wp2_with fail
  have hA : Below w.heap.size w (w'.alloc (.cells #[.string x0, .string x1, .int .i64 s.msg.st, .string x3, .int .i64 s.msg.mi, .slice a1 n1 k1, .string x6, .slice a2 n2 k2] 37)) := HZb.out.alloc HZb.out.size _
  refine (HBg.out _ hA).mono ?_
  rintro e w2 ⟨rfl, hp, ht, hk⟩
  have hblk := (hk w'.heap.size hlt2).trans (heap_alloc_last w' _)
  have d0 : w2.cell? ⟨w'.heap.size, 0, none⟩ = some (.string x0) := by rw [Lib.cell_of_heap hblk]; rfl
  have d1 : w2.cell? ⟨w'.heap.size, 1, none⟩ = some (.string x1) := by rw [Lib.cell_of_heap hblk]; rfl
  have d2 : w2.cell? ⟨w'.heap.size, 2, none⟩ = some (.int .i64 s.msg.st) := by rw [Lib.cell_of_heap hblk]; rfl
  have d3 : w2.cell? ⟨w'.heap.size, 3, none⟩ = some (.string x3) := by rw [Lib.cell_of_heap hblk]; rfl
  have d4 : w2.cell? ⟨w'.heap.size, 4, none⟩ = some (.int .i64 s.msg.mi) := by rw [Lib.cell_of_heap hblk]; rfl
  have d5 : w2.cell? ⟨w'.heap.size, 5, none⟩ = some (.slice a1 n1 k1) := by rw [Lib.cell_of_heap hblk]; rfl
  have d6 : w2.cell? ⟨w'.heap.size, 6, none⟩ = some (.string x6) := by rw [Lib.cell_of_heap hblk]; rfl
  have d7 : w2.cell? ⟨w'.heap.size, 7, none⟩ = some (.slice a2 n2 k2) := by rw [Lib.cell_of_heap hblk]; rfl
  have hwb : w.heap.size ≠ b := fun e => by have := H.out.lt; omega
  have hzs : w.heap.size ≠ w'.heap.size := fun e => by rw [HZ.out] at e; simp at e
  have hblk0 : w2.heap[w.heap.size]? = some (.cells nxZ.toArray 37 (0, 0)) := by
    have h0 : w'.heap[w.heap.size]? = some (.cells nxZ.toArray 37 (0, 0)) := by rw [HZ.out]; exact heap_alloc_last w _
    exact (hk _ hwb).trans ((Below.heap_alloc _ _ _ (Array.getElem?_eq_some_iff.1 h0).1).trans h0)
  have g0 : w2.cell? ⟨w.heap.size, 0, none⟩ = some (.string ⟨#[]⟩) := by rw [Lib.cell_of_heap hblk0]; rfl
  have g1 : w2.cell? ⟨w.heap.size, 1, none⟩ = some (.string ⟨#[]⟩) := by rw [Lib.cell_of_heap hblk0]; rfl
  have g2 : w2.cell? ⟨w.heap.size, 2, none⟩ = some (.int .i64 0) := by rw [Lib.cell_of_heap hblk0]; rfl
  have g3 : w2.cell? ⟨w.heap.size, 3, none⟩ = some (.string ⟨#[]⟩) := by rw [Lib.cell_of_heap hblk0]; rfl
  have g4 : w2.cell? ⟨w.heap.size, 4, none⟩ = some (.int .i64 0) := by rw [Lib.cell_of_heap hblk0]; rfl
  have g5 : w2.cell? ⟨w.heap.size, 5, none⟩ = some (.slice none 0 0) := by rw [Lib.cell_of_heap hblk0]; rfl
  have g6 : w2.cell? ⟨w.heap.size, 6, none⟩ = some (.string ⟨#[]⟩) := by rw [Lib.cell_of_heap hblk0]; rfl
  have g7 : w2.cell? ⟨w.heap.size, 7, none⟩ = some (.slice none 0 0) := by rw [Lib.cell_of_heap hblk0]; rfl
  have z0 := Lib.frozen_of_heap hblk0 0
  have z1 := Lib.frozen_of_heap hblk0 1
  have z2 := Lib.frozen_of_heap hblk0 2
  have z3 := Lib.frozen_of_heap hblk0 3
  have z4 := Lib.frozen_of_heap hblk0 4
  have z5 := Lib.frozen_of_heap hblk0 5
  have z6 := Lib.frozen_of_heap hblk0 6
  have z7 := Lib.frozen_of_heap hblk0 7
  have hBl : Below w.heap.size w2 (w2.setCells w.heap.size 0 [.string x0, .string x1, .int .i64 s.msg.st, .string x3, .int .i64 s.msg.mi, .slice a1 n1 k1, .string x6, .slice a2 n2 k2]) := by
    obtain ⟨r1, r2, r3, r4⟩ := setCells_rest w.heap.size [.string x0, .string x1, .int .i64 s.msg.st, .string x3, .int .i64 s.msg.mi, .slice a1 n1 k1, .string x6, .slice a2 n2 k2] 0 w2
    exact ⟨r2, r3, r4, Nat.le_of_eq r1.symm, fun k hk => setCells_other _ _ 0 w2 k (by omega)⟩
  have HN := Lib.hid (NxPost.of H.out HR.out.1 HR.out.2.1 hA hp ht hk hBl)
  have hPut := setCells_blk w.heap.size 37 [.string x0, .string x1, .int .i64 s.msg.st, .string x3, .int .i64 s.msg.mi, .slice a1 n1 k1, .string x6, .slice a2 n2 k2] 0 w2 _ hblk0 (by show 8 ≤ 8; omega)
  have y0 : (w2.setCells w.heap.size 0 [.string x0, .string x1, .int .i64 s.msg.st, .string x3, .int .i64 s.msg.mi, .slice a1 n1 k1, .string x6, .slice a2 n2 k2]).cell? ⟨w.heap.size, 0, none⟩ = some (.string x0) := by rw [Lib.cell_of_heap hPut]; rfl
  have y1 : (w2.setCells w.heap.size 0 [.string x0, .string x1, .int .i64 s.msg.st, .string x3, .int .i64 s.msg.mi, .slice a1 n1 k1, .string x6, .slice a2 n2 k2]).cell? ⟨w.heap.size, 1, none⟩ = some (.string x1) := by rw [Lib.cell_of_heap hPut]; rfl
  have y2 : (w2.setCells w.heap.size 0 [.string x0, .string x1, .int .i64 s.msg.st, .string x3, .int .i64 s.msg.mi, .slice a1 n1 k1, .string x6, .slice a2 n2 k2]).cell? ⟨w.heap.size, 2, none⟩ = some (.int .i64 s.msg.st) := by rw [Lib.cell_of_heap hPut]; rfl
  have y3 : (w2.setCells w.heap.size 0 [.string x0, .string x1, .int .i64 s.msg.st, .string x3, .int .i64 s.msg.mi, .slice a1 n1 k1, .string x6, .slice a2 n2 k2]).cell? ⟨w.heap.size, 3, none⟩ = some (.string x3) := by rw [Lib.cell_of_heap hPut]; rfl
  have y4 : (w2.setCells w.heap.size 0 [.string x0, .string x1, .int .i64 s.msg.st, .string x3, .int .i64 s.msg.mi, .slice a1 n1 k1, .string x6, .slice a2 n2 k2]).cell? ⟨w.heap.size, 4, none⟩ = some (.int .i64 s.msg.mi) := by rw [Lib.cell_of_heap hPut]; rfl
  have y5 : (w2.setCells w.heap.size 0 [.string x0, .string x1, .int .i64 s.msg.st, .string x3, .int .i64 s.msg.mi, .slice a1 n1 k1, .string x6, .slice a2 n2 k2]).cell? ⟨w.heap.size, 5, none⟩ = some (.slice a1 n1 k1) := by rw [Lib.cell_of_heap hPut]; rfl
  have y6 : (w2.setCells w.heap.size 0 [.string x0, .string x1, .int .i64 s.msg.st, .string x3, .int .i64 s.msg.mi, .slice a1 n1 k1, .string x6, .slice a2 n2 k2]).cell? ⟨w.heap.size, 6, none⟩ = some (.string x6) := by rw [Lib.cell_of_heap hPut]; rfl
  have y7 : (w2.setCells w.heap.size 0 [.string x0, .string x1, .int .i64 s.msg.st, .string x3, .int .i64 s.msg.mi, .slice a1 n1 k1, .string x6, .slice a2 n2 k2]).cell? ⟨w.heap.size, 7, none⟩ = some (.slice a2 n2 k2) := by rw [Lib.cell_of_heap hPut]; rfl
  have HW9 := Lib.hid (rfl : w2.setCells w.heap.size 0 [.string x0, .string x1, .int .i64 s.msg.st, .string x3, .int .i64 s.msg.mi, .slice a1 n1 k1, .string x6, .slice a2 n2 k2] = w2.setCells w.heap.size 0 [.string x0, .string x1, .int .i64 s.msg.st, .string x3, .int .i64 s.msg.mi, .slice a1 n1 k1, .string x6, .slice a2 n2 k2])
  clear hA hp ht hk hblk hblk0 hBl hPut c5 c12 c13 c14 c15 c16 c17 c18 c19
  generalize hW9 : w2.setCells w.heap.size 0 [.string x0, .string x1, .int .i64 s.msg.st, .string x3, .int .i64 s.msg.mi, .slice a1 n1 k1, .string x6, .slice a2 n2 k2] = W9 at y0 y1 y2 y3 y4 y5 y6 y7 HN
  have HW8 := Lib.hid hW9
  clear hW9 HW9
  go_wp2_with fail
  refine bodyPost_at (W := W9) HW8.out ?_
  refine bodyPost_ret (v := .tuple #[.agg #[.string x0, .string x1, .int .i64 s.msg.st, .string x3, .int .i64 s.msg.mi, .slice a1 n1 k1, .string x6, .slice a2 n2 k2], .bool true]) ?_ rfl ⟨rfl, HN.out⟩
  simp [results, Tryz.results15, go_sem, y0, y1, y2, y3, y4, y5, y6, y7]
end Tk
end Go.Proofs.YtomhpnkpmeindaaGreatDoor
