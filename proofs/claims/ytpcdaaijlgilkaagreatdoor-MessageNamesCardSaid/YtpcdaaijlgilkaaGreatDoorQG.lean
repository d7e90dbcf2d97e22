/- MsgE StaA StaB StaC StaD StaE MsgF Num FrmA FrmB, put together. -/
import Derived.Test.YtpcdaaijlgilkaaGreatDoorQF
import Derived.Test.YtpcdaaijlgilkaaGreatDoorQB
import Derived.Test.YtpcdaaijlgilkaaGreatDoorQE
import Derived.Test.YtpcdaaijlgilkaaGreatDoorQA
import Derived.Test.YtpcdaaijlgilkaaGreatDoorQC
import Derived.Test.YtpcdaaijlgilkaaGreatDoorQD
import Derived.BigQuiet
namespace Go.Proofs.YtpcdaaijlgilkaaGreatDoor
open Go.RowKit
namespace Tk

variable {B b : Nat} {s : Pr} {q z lf : Nat} {V : PV} {w : World}
theorem Par.as (h : Par B b s q z lf V w) (s' : Pr) (hc : pcells b s' q z lf V = pcells b s q z lf V) (h1 : s'.asked = s.asked) (h2 : s'.line = s.line) (h3 : s'.msg.f = s.msg.f) (h4 : s'.msg.tr = s.msg.tr) (h5 : s'.body = s.body) (h6 : s'.mode = 6 → s.mode = 6 ∧ s'.dc = s.dc) : Par B b s' q z lf V w :=
  h.cells s' q z lf (fun _ _ => rfl) (by rw [hc]; exact h.blk) (Nat.le_refl _) h1 h2 h3 h4 h5 h6

/-- bytes that were added to the line -/
def Pr.puts (s : Pr) (a : Bs) : Pr := { s with line := s.line ++ a, head := s.head + a.length }
theorem puts_nil (s : Pr) : s.puts [] = s := by unfold Pr.puts; simp
theorem puts_put (s : Pr) (a : Bs) (c : UInt8) : (s.puts a).put c = s.puts (a ++ [c]) := by unfold Pr.puts Pr.put; simp [Nat.add_assoc]
theorem stepP_0 (s : Pr) (c : UInt8) (n : Nat) (hm : s.mode ≤ 3) (h : addQ s c = 0) : stepP (s.ate n) c = (s.put c).ate (n + 1) := by
  have h' : addQ (s.ate n) c = 0 := h
  unfold stepP stepQ
  rw [if_pos (show (s.ate n).mode ≤ 3 from hm), if_pos h']
  unfold Pr.ate Pr.put; simp [Nat.add_assoc]
theorem stepP_1 (s : Pr) (c : UInt8) (n : Nat) (hm : s.mode ≤ 3) (h : addQ s c = 1) : stepP (s.ate n) c = (lineP { s with line := [], head := s.head + 1 } s.line.dropLast).ate (n + 1) := by
  have h' : addQ (s.ate n) c = 1 := h
  unfold stepP stepQ
  rw [if_pos (show (s.ate n).mode ≤ 3 from hm), if_neg (by rw [h']; omega), if_pos h', ← ate_ate]
  congr 1
  exact lineP_ate { s with line := [], head := s.head + 1 } s.line.dropLast n
theorem stepP_2 (s : Pr) (c : UInt8) (n : Nat) (hm : s.mode ≤ 3) (h : addQ s c = 2) : stepP (s.ate n) c = ((s.put c).fl 431).ate (n + 1) := by
  have h' : addQ (s.ate n) c = 2 := h
  unfold stepP stepQ
  rw [if_pos (show (s.ate n).mode ≤ 3 from hm), if_neg (by rw [h']; omega), if_neg (by rw [h']; omega), if_pos h']
  unfold Pr.ate Pr.put Pr.fl; simp [Nat.add_assoc]
theorem stepP_3 (s : Pr) (c : UInt8) (n : Nat) (hm : s.mode ≤ 3) (h : addQ s c = 3) : stepP (s.ate n) c = ({ s.put c with bad := 400 } : Pr).ate (n + 1) := by
  have h' : addQ (s.ate n) c = 3 := h
  unfold stepP stepQ
  rw [if_pos (show (s.ate n).mode ≤ 3 from hm), if_neg (by rw [h']; omega), if_neg (by rw [h']; omega), if_neg (by rw [h']; omega)]
  unfold Pr.ate Pr.put; simp [Nat.add_assoc]
theorem addQ_in (s : Pr) (c : UInt8) : addQ s c = 0 ∨ addQ s c = 1 ∨ addQ s c = 2 ∨ addQ s c = 3 := by
  unfold addQ; repeat' split
  all_goals simp
theorem addQ_1 (s : Pr) (c : UInt8) (h : addQ s c = 1) : c = 10 ∧ ∃ p, s.line = p ++ [13] := by
  unfold addQ at h
  split at h
  · omega
  · split at h
    · omega
    · split at h
      · omega
      · rename_i h1 h2 h3
        split at h
        · rename_i hc
          refine ⟨?_, ?_⟩
          · rw [hc] at h2
            simpa using h2
          · unfold cr at hc
            simp only [decide_eq_true_eq] at hc
            obtain ⟨p, hp⟩ := List.getLast?_eq_some_iff.1 hc
            exact ⟨p, hp⟩
        · omega

theorem inp_aside {g : Nat} {l : Bs} {w w' : World} {V' : PV} {X : Nat → Prop} (h : Inp g l w) (hm : ¬ PMine b V g) (ht : PTn b V V' X w w') (hx : ¬ X g) : Inp g l w' := by
  unfold Inp at *
  rw [ht.block g (Array.getElem?_eq_some_iff.1 h).1 hm hx]; exact h
/-- how much is there to be eaten -/
def restLen (g : Nat) (w : World) : Nat := match w.cell? ⟨g, 0, none⟩ with
  | some (.string t) => t.size
  | _ => 0
theorem restLen_of {g : Nat} {l : Bs} {w : World} (h : Inp g l w) : restLen g w = l.length := by unfold restLen; rw [h.cell]; exact size_mkS l

/-- it goes on with a parser s', and l' is there to be eaten -/
def PIn (B b : Nat) (s' : Pr) (q z lf : Nat) (V : PV) (g : Nat) (l' : Bs) (w w' : World) : Prop := PTo B b s' q z lf V (· = g) w w' ∧ Inp g l' w'
/-- what readLine leaves -/
def RdPost (B b : Nat) (s : Pr) (q z lf : Nat) (V : PV) (g : Nat) (l : Bs) (w : World) (e : Ending) (w' : World) : Prop :=
  ∃ i, i ≤ l.length ∧ EatsP s (l.take i) ((s.puts (l.take i)).ate i) ∧
    ((i = l.length ∧ e = .returned (.tuple #[.string ⟨#[]⟩, .bool false, .nilIface]) ∧ PIn B b (s.puts (l.take i)) q z lf V g [] w w') ∨
     ∃ c, l[i]? = some c ∧
      ((addQ (s.puts (l.take i)) c = 1 ∧ e = .returned (.tuple #[.string (mkS (s.puts (l.take i)).line.dropLast), .bool true, .nilIface]) ∧ PIn B b { s.puts (l.take i) with line := [], head := (s.puts (l.take i)).head + 1 } q z lf V g (l.drop (i + 1)) w w') ∨
       (addQ (s.puts (l.take i)) c = 2 ∧ e = .returned (.tuple #[.string ⟨#[]⟩, .bool false, flV 431]) ∧ PIn B b ((s.puts (l.take i)).put c) q z lf V g (l.drop (i + 1)) w w') ∨
       (addQ (s.puts (l.take i)) c = 3 ∧ e = .panicked malP ∧ PIn B b ((s.puts (l.take i)).put c) q z lf V g (l.drop (i + 1)) w w')))

theorem take_one (g : Nat) (c : UInt8) (t : Bs) (w : World) (h : Inp g (c :: t) w) :
    Calls Tryz.prog 60 #[.pointer (some ⟨g, 0, none⟩), .int .i64 1] w fun e w' => e = .returned (.string ⟨#[c]⟩) ∧ w' = w.setCell ⟨g, 0, none⟩ (.string (mkS t)) := take_any g (c :: t) 1 w h

set_option maxHeartbeats 8000000 in
set_option maxRecDepth 100000 in
theorem readLine_any (g : Nat) (l : Bs) (h : Par B b s q z lf V w) (hi : Inp g l w) (hg : ¬ PMine b V g) (hm : s.mode ≤ 3) (hz0 : s.bad = 0) (hrs : (s.rsp && s.asked.isEmpty) = false) (hz : s.line.length + l.length ≤ 1048570) (hh : s.head + l.length ≤ 1048570) :
    Calls Tryz.prog 49 #[ptr b, ptr g] w (RdPost B b s q z lf V g l w) := by
  have HP := Lib.hid h
  have HI := Lib.hid hi
  have HG := Lib.hid (show g < w.heap.size ∧ ¬ PMine b V g from ⟨hi.lt, hg⟩)
  have HB := Lib.hid (⟨hz, hh⟩ : _ ∧ _)
  have HM := Lib.hid (⟨hm, hz0, hrs⟩ : _ ∧ _ ∧ _)
  clear h hi hg hm hz0 hrs hz hh
  unfold ptr
  go_enter Tryz.func49, Tryz.ntmps49
  go_wp2_with fail
  go_loopw [5, 6] (fun v5 v6 wr => ∃ (i : Nat) (Vi : PV), i ≤ l.length ∧ v5 = .bool false ∧ v6 = .nilIface ∧ Hid (EatsP s (l.take i) ((s.puts (l.take i)).ate i)) ∧ Hid (Par B b (s.puts (l.take i)) q z lf Vi wr) ∧ Hid (PTn b V Vi (· = g) w wr) ∧ Hid (Inp g (l.drop i) wr)) (fun _ _ wr => restLen g wr)
  case atStart => exact ⟨0, V, Nat.zero_le _, rfl, rfl, Lib.hid (by rw [List.take_zero, puts_nil]; exact EatsP.nil s), Lib.hid (by rw [List.take_zero, puts_nil]; exact HP.out), Lib.hid PTn.refl, HI⟩
  case round =>
    obtain ⟨i, Vi, hi, rfl, rfl, HE, HD, HT, HIn⟩ := hrel
    rename World => W
    have hmi := HT.out.not_mine HG.out
    by_cases hend : i = l.length
    · have hdr : l.drop i = [] := by rw [hend]; simp
      have c0 : W.cell? ⟨g, 0, none⟩ = some (.string ⟨#[]⟩) := by have := HIn.out.cell; rw [hdr] at this; exact this
      have HX := Lib.hid (show ∀ e, e = .returned (.tuple #[.string ⟨#[]⟩, .bool false, .nilIface]) → RdPost B b s q z lf V g l w e W from fun e he => ⟨i, hi, HE.out, .inl ⟨hend, he, ⟨Vi, HD.out, HT.out⟩, by have := HIn.out; rw [hdr] at this; exact this⟩⟩)
      clear hend hdr hmi hi
      go_wp2_with fail
      go_ret3
      exact HX.out _ rfl
    · have hlt : i < l.length := by omega
      obtain ⟨c, hc⟩ : ∃ c, l[i]? = some c := ⟨_, List.getElem?_eq_getElem hlt⟩
      have hdr : l.drop i = c :: l.drop (i + 1) := by
        rw [List.drop_eq_getElem_cons hlt]
        congr 1
        rw [List.getElem?_eq_getElem hlt] at hc
        exact Option.some.inj hc
      have htk : l.take (i + 1) = l.take i ++ [c] := by rw [List.take_add_one, hc]; rfl
      have hIn := HIn.out
      rw [hdr] at hIn
      have c0 : W.cell? ⟨g, 0, none⟩ = some (.string (mkS (c :: l.drop (i + 1)))) := hIn.cell
      have hne : ((mkS (c :: l.drop (i + 1))).toList == ([] : List UInt8)) = false := by rw [toList_bs, bs_mkS]; rfl
      have hmi2 : ¬ PMine b Vi g := hmi
      have HA := Lib.hid (HD.out.aside hmi2 0 (.string (mkS (l.drop (i + 1)))))
      have HTA := Lib.hid (HT.out.aside (k := g) (.inl rfl) 0 (.string (mkS (l.drop (i + 1)))))
      have HIA := Lib.hid (hIn.put (l.drop (i + 1)))
      have HTk := Lib.hid (take_one g c (l.drop (i + 1)) W hIn)
      have hb1 : (s.puts (l.take i)).line.length + 1 ≤ 1048576 := by unfold Pr.puts; simp; have := HB.out.1; omega
      have hb2 : (s.puts (l.take i)).head + 1 ≤ 1048576 := by unfold Pr.puts; simp; have := HB.out.2; omega
      have HAd := Lib.hid (padd_any (X := fun _ => False) c HA.out hb1 hb2)
      have HStop := Lib.hid (show stopP ((s.puts (l.take i)).ate i) = false from is_go (by show s.mode ≠ 7; have := HM.out.1; omega) HM.out.2.1 HM.out.2.2)
      have HC := Lib.hid hc
      have HTake := Lib.hid htk
      have HR := Lib.hid (restLen_of hIn)
      have hi1 : i + 1 ≤ l.length := by omega
      clear hIn hdr hc htk hmi hmi2 hend hi hlt hb1 hb2
      rw [show (Value.string (mkS (c :: l.drop (i + 1)))) = Value.string (mkS (c :: l.drop (i + 1))) from rfl] at c0
      generalize hsi : s.puts (l.take i) = si at *
      generalize W.setCell ⟨g, 0, none⟩ (.string (mkS (l.drop (i + 1)))) = W1 at *
      generalize mkS (c :: l.drop (i + 1)) = tx at *
      have HSi := Lib.hid hsi
      unfold ptr at HAd
      clear hsi
      rcases addQ_in si c with hk | hk | hk | hk
      · have hE : addPE si c = .returned (.tuple #[.bool false, .nilIface]) := by unfold addPE; rw [if_pos hk]
        rw [hE] at HAd
        have HK := Lib.hid hk
        clear hE hk
        go_wp2_with fail
        refine HTk.out.mono ?_
        rintro e w1 ⟨rfl, rfl⟩
        go_wp2_with fail
        refine HAd.out.mono ?_
        rintro e w2 ⟨rfl, hp⟩
        obtain ⟨V2, hd2, ht2⟩ := hp
        have hin2 := inp_aside HIA.out (HTA.out.not_mine HG.out) ht2 (fun e => e)
        have htt := HTA.out.trans (ht2.mono fun _ _ e => e.elim)
        have hrl := restLen_of hin2
        have hE1 : EatsP s (l.take (i + 1)) ((s.puts (l.take (i + 1))).ate (i + 1)) := by
          rw [HTake.out, ← puts_put, HSi.out, ← stepP_0 si c i (by rw [← HSi.out]; exact HM.out.1) HK.out]
          exact HE.out.append (EatsP.one HStop.out)
        have HX := Lib.hid (show ∃ (j : Nat) (Vi : PV), j ≤ l.length ∧ Hid (EatsP s (l.take j) ((s.puts (l.take j)).ate j)) ∧ Hid (Par B b (s.puts (l.take j)) q z lf Vi w2) ∧ Hid (PTn b V Vi (· = g) w w2) ∧ Hid (Inp g (l.drop j) w2) from ⟨i + 1, V2, hi1, hE1, by rw [HTake.out, ← puts_put, HSi.out]; exact hd2, htt, hin2⟩)
        have HR2 := Lib.hid hrl
        clear hd2 ht2 hin2 htt hrl hE1
        go_wp2_with fail
        refine ⟨?_, ?_⟩
        · obtain ⟨j, Vj, h1, h2⟩ := HX.out
          exact ⟨j, Vj, h1, rfl, rfl, h2⟩
        · rw [HR.out, HR2.out]
          simp only [List.length_drop, List.length_cons]; omega
      · -- the line has ended
        have hE : addPE si c = .returned (.tuple #[.bool true, .nilIface]) := by unfold addPE; rw [if_neg (by rw [hk]; omega), if_pos hk]
        rw [hE] at HAd
        have HK := Lib.hid hk
        have HQ1 := Lib.hid (addQ_1 si c hk)
        clear hE hk
        go_wp2_with fail
        refine HTk.out.mono ?_
        rintro e w1 ⟨rfl, rfl⟩
        go_wp2_with fail
        refine HAd.out.mono ?_
        rintro e w2 ⟨rfl, hp⟩
        obtain ⟨V2, hd2, ht2⟩ := hp
        have hin2 := inp_aside HIA.out (HTA.out.not_mine HG.out) ht2 (fun e => e)
        have htt := HTA.out.trans (ht2.mono fun _ _ e => e.elim)
        obtain ⟨hc10, p, hp13⟩ := HQ1.out
        have hl : (si.put c).line = p ++ [13, 10] := by unfold Pr.put; rw [hp13, hc10]; simp
        have hlen : (si.put c).line.length = p.length + 2 := by rw [hl]; simp
        obtain ⟨g2, cap, hv⟩ : ∃ g cap, V2.l = .slice (some ⟨g, 0, none⟩) (si.put c).line.length cap := by
          rcases hd2.line.2 with ⟨hv, h0⟩ | ⟨g, cap, cur, hv, _⟩
          · omega
          · exact ⟨_, _, hv⟩
        have hcl := cells_str_at hd2.line hv
        have hback := fun (c : Nat) => run_convert_bytes_back (P := Tryz.prog) w2.drew 65 9 5 ⟨g2, 0, none⟩ c p Tryz.underlying65 Tryz.underlying5 Tryz.underlying9 (fun j hj => by
          have := hcl j (by omega)
          refine this.trans ?_
          congr 3
          simp [hl, List.getElem_append_left hj])
        have hcap : p.length + 2 ≤ cap := by
          rcases hd2.line.2 with ⟨hv2, h0⟩ | ⟨g', cap', cur, hv2, _, _, hc, _⟩
          · omega
          · have hv3 := hv.symm.trans hv2
            injection hv3 with _ _ e3; omega
        have hcut := fun (m : Nat) => (hd2.draws m).cutLine (X := fun _ => False) ⟨g2, 0, none⟩ cap hv
        have c11 : w2.cell? ⟨b, 11, none⟩ = some (.slice (some ⟨g2, 0, none⟩) (p.length + 2) cap) := by rw [← hlen, ← hv]; exact hd2.cell 11 _ rfl
        have f11 : w2.frozen? ⟨b, 11, none⟩ = false := hd2.frz 11
        have hdl : si.line.dropLast = p := by rw [hp13]; simp
        have hkb : p.length ≤ 1048576 := by
          have h1 : si.line.length = s.line.length + (l.take i).length := by rw [← HSi.out]; unfold Pr.puts; simp
          rw [hp13] at h1
          simp at h1
          have := HB.out.1
          omega
        have hX : ∀ (m : Nat) e, e = .returned (.tuple #[.string (mkS p), .bool true, .nilIface]) → RdPost B b s q z lf V g l w e ((w2.drewN m).setCell ⟨b, 11, none⟩ (.slice (some ⟨g2, 0, none⟩) 0 cap)) := fun m e he => by
          obtain ⟨hd3, ht3⟩ := hcut m
          have hin3 : Inp g (l.drop (i + 1)) ((w2.drewN m).setCell ⟨b, 11, none⟩ (.slice (some ⟨g2, 0, none⟩) 0 cap)) := by
            refine inp_aside (show Inp g (l.drop (i + 1)) (w2.drewN m) from hin2) (htt.not_mine HG.out) ht3 (fun e => e)
          refine ⟨i, by omega, by rw [HSi.out]; exact HE.out, .inr ⟨c, HC.out, .inl ⟨by rw [HSi.out]; exact HK.out, by rw [HSi.out, hdl]; exact he, by rw [HSi.out]; exact ⟨⟨_, hd3.as _ rfl rfl rfl rfl rfl rfl (fun e => ⟨e, rfl⟩), (htt.trans (PTn.draws m)).trans (ht3.mono fun _ _ e => e.elim)⟩, hin3⟩⟩⟩⟩
        have HX := Lib.hid hX
        clear hX hd2 ht2 hin2 htt hcl hcut hv hdl hl hlen hp13 hc10
        have hb1 : (0 : Int) ≤ (p.length : Int) := by omega
        generalize hk : p.length = k at *
        have hb2 : (k : Int) ≤ (cap : Int) := by omega
        have hb3 : ¬ (cap : Int) < (k : Int) := by omega
        have hb4 : (0 : Int) ≤ (k : Int) ∧ (k : Int) ≤ (cap : Int) := by omega
        have hb5 : ((k : Int)).toNat = k := by omega
        have hb6 : IntKind.i64.wrap (k : Int) = (k : Int) := IntWalk.i64_in _ (by omega)
        have HX1 := Lib.hid (show ∀ e, e = .returned (.tuple #[.string (mkS p), .bool true, .nilIface]) → RdPost B b s q z lf V g l w e (w2.drew.setCell ⟨b, 11, none⟩ (.slice (some ⟨g2, 0, none⟩) 0 cap)) from HX.out 1)
        clear HX HTk HAd HR HK HC HE HD HT HIn HA HTA HIA HStop HTake HSi HP HI HG HB HM
        go_wp2_with fail
        go_region
        trace "region"
        go_wp2_with fail
        go_ret3
        exact HX1.out _ rfl
      · have hE : addPE si c = .returned (.tuple #[.bool false, flV 431]) := by unfold addPE; rw [if_neg (by rw [hk]; omega), if_neg (by rw [hk]; omega), if_pos hk]
        rw [hE] at HAd
        have HK := Lib.hid hk
        clear hE hk
        go_wp2_with fail
        refine HTk.out.mono ?_
        rintro e w1 ⟨rfl, rfl⟩
        go_wp2_with fail
        refine HAd.out.mono ?_
        rintro e w2 ⟨rfl, hp⟩
        obtain ⟨V2, hd2, ht2⟩ := hp
        have hin2 := inp_aside HIA.out (HTA.out.not_mine HG.out) ht2 (fun e => e)
        have htt := HTA.out.trans (ht2.mono fun _ _ e => e.elim)
        have HX := Lib.hid (show ∀ e, e = .returned (.tuple #[.string ⟨#[]⟩, .bool false, flV 431]) → RdPost B b s q z lf V g l w e w2 from fun e he => ⟨i, by omega, by rw [HSi.out]; exact HE.out, .inr ⟨c, HC.out, .inr (.inl ⟨by rw [HSi.out]; exact HK.out, he, by rw [HSi.out]; exact ⟨⟨V2, hd2, htt⟩, hin2⟩⟩)⟩⟩)
        clear hd2 ht2 hin2 htt
        unfold flV
        go_wp2_with fail
        go_ret3
        exact HX.out _ rfl
      · have hE : addPE si c = .panicked malP := by unfold addPE; rw [if_neg (by rw [hk]; omega), if_neg (by rw [hk]; omega), if_neg (by rw [hk]; omega)]
        rw [hE] at HAd
        have HK := Lib.hid hk
        clear hE hk
        go_wp2_with fail
        refine HTk.out.mono ?_
        rintro e w1 ⟨rfl, rfl⟩
        go_wp2_with fail
        refine HAd.out.mono ?_
        rintro e w2 ⟨rfl, hp⟩
        obtain ⟨V2, hd2, ht2⟩ := hp
        have hin2 := inp_aside HIA.out (HTA.out.not_mine HG.out) ht2 (fun e => e)
        have htt := HTA.out.trans (ht2.mono fun _ _ e => e.elim)
        exact ⟨rfl, i, by omega, by rw [HSi.out]; exact HE.out, .inr ⟨c, HC.out, .inr (.inr ⟨by rw [HSi.out]; exact HK.out, rfl, by rw [HSi.out]; exact ⟨⟨V2, hd2, htt⟩, hin2⟩⟩)⟩⟩
end Tk
end Go.Proofs.YtpcdaaijlgilkaaGreatDoor
namespace Go.Proofs.YtpcdaaijlgilkaaGreatDoor
open Go.RowKit
namespace Tk

theorem retB {a b : Bool} (h : a = b) : Ending.returned (.bool a) = .returned (.bool b) := by rw [h]

set_option maxHeartbeats 400000 in
theorem sdigit_any (c : UInt8) (w : World) :
    Calls Tryz.prog 87 #[.int .u8 (c.toNat : Int)] w fun e w' => e = .returned (.bool (isDig c)) ∧ w = w' := by
  have hlt := c.toNat_lt
  have HD := Lib.hid (show isDig c = (decide (48 ≤ c.toNat) && decide (c.toNat ≤ 57)) from rfl)
  generalize c.toNat = n at *
  by_cases h0 : 48 ≤ n <;> by_cases h1 : n ≤ 57
  all_goals
    first
    | omega
    | (go_enter Tryz.func87, Tryz.ntmps87
       go_wp2_with fail
       go_ret
       exact ⟨retB (by rw [HD.out, Bool.eq_iff_iff]; simp; omega), rfl⟩)

set_option maxHeartbeats 400000 in
theorem visible_any (c : UInt8) (w : World) :
    Calls Tryz.prog 57 #[.int .u8 (c.toNat : Int)] w fun e w' => e = .returned (.bool (vis c)) ∧ w = w' := by
  have hlt := c.toNat_lt
  have HD := Lib.hid (show vis c = (decide (33 ≤ c.toNat) && decide (c.toNat ≤ 126)) from rfl)
  generalize c.toNat = n at *
  by_cases h0 : 32 < n <;> by_cases h1 : n ≤ 126
  all_goals
    first
    | omega
    | (go_enter Tryz.func57, Tryz.ntmps57
       go_wp2_with fail
       go_ret
       exact ⟨retB (by rw [HD.out, Bool.eq_iff_iff]; simp; omega), rfl⟩)

set_option maxHeartbeats 1000000 in
theorem letter_any (c : UInt8) (w : World) :
    Calls Tryz.prog 138 #[.int .u8 (c.toNat : Int)] w fun e w' => e = .returned (.bool (isLet c)) ∧ w = w' := by
  have hlt := c.toNat_lt
  have HD := Lib.hid (show isLet c = (decide (65 ≤ c.toNat ∧ c.toNat ≤ 90) || decide (97 ≤ c.toNat ∧ c.toNat ≤ 122)) from rfl)
  generalize c.toNat = n at *
  by_cases h0 : 65 ≤ n <;> by_cases h1 : n ≤ 90 <;> by_cases h2 : 97 ≤ n <;> by_cases h3 : n ≤ 122
  all_goals
    first
    | omega
    | (go_enter Tryz.func138, Tryz.ntmps138
       go_wp2_with fail
       go_ret
       exact ⟨retB (by rw [HD.out, Bool.eq_iff_iff]; simp; omega), rfl⟩)

theorem ix_cons (a c : UInt8) (t : Bs) : Lib.indexByte (a :: t) c = if a == c then 0 else if Lib.indexByte t c == -1 then -1 else Lib.indexByte t c + 1 := rfl
theorem ix_contains (c : UInt8) : ∀ l : Bs, decide (0 ≤ Lib.indexByte l c) = l.contains c
  | [] => by simp [Lib.indexByte]
  | a :: t => by
    have ih := ix_contains c t
    have hg := Lib.indexByte_ge t c
    rw [List.contains_cons, ← ih, ix_cons]
    by_cases h : a = c
    · subst h; simp
    · have h1 : (a == c) = false := beq_eq_false_iff_ne.2 h
      have h2 : (c == a) = false := beq_eq_false_iff_ne.2 (fun e => h e.symm)
      rw [h1, h2, Bool.false_or]
      generalize Lib.indexByte t c = k at *
      by_cases hm : k = -1
      · subst hm; rfl
      · have h3 : (k == -1) = false := by rw [beq_eq_false_iff_ne]; exact hm
        rw [h3, Bool.eq_iff_iff]; simp; omega

set_option maxHeartbeats 1000000 in
theorem inName_any (c : UInt8) (w : World) :
    Calls Tryz.prog 111 #[.int .u8 (c.toNat : Int)] w fun e w' => e = .returned (.bool (inName c)) ∧ w = w' := by
  have HL := letter_any c w
  have HD := sdigit_any c w
  have hx := Tryz.strings_IndexByte ⟨#[45, 46, 95, 126, 33, 36, 38, 39, 40, 41, 42, 43, 44, 59, 61, 37]⟩ (c.toNat : Int) w
  have hc : (c.toNat : Int).toNat.toUInt8 = c := by simp
  rw [hc] at hx
  have hm := ix_contains c marksL
  have hx2 : Calls Tryz.prog 136 #[.string ⟨#[45, 46, 95, 126, 33, 36, 38, 39, 40, 41, 42, 43, 44, 59, 61, 37]⟩, .int .u8 (c.toNat : Int)] w fun e w' => e = .returned (.int .i64 (Lib.indexByte marksL c)) ∧ w' = w := hx
  generalize Lib.indexByte marksL c = k at *
  have HX := Lib.hid hx2
  have HN := Lib.hid (show inName c = (isLet c || isDig c || marksL.contains c) from rfl)
  have HM := Lib.hid hm
  clear hx hx2 hm hc
  cases hl : isLet c
  · rw [hl] at HL HN
    have HL2 := Lib.hid HL
    clear HL
    cases hd : isDig c
    · rw [hd] at HD HN
      have HD2 := Lib.hid HD
      clear HD hl hd
      by_cases hk : 0 ≤ k
      all_goals
        go_enter Tryz.func111, Tryz.ntmps111
        go_wp2_with fail
        refine HL2.out.mono ?_
        rintro e w' ⟨rfl, rfl⟩
        go_wp2_with fail
        refine HD2.out.mono ?_
        rintro e w' ⟨rfl, rfl⟩
        go_wp2_with fail
        refine HX.out.mono ?_
        rintro e w' ⟨rfl, rfl⟩
        go_wp2_with fail
        go_ret
        exact ⟨retB (by rw [HN.out, ← HM.out]; simp [hk]), rfl⟩
    · rw [hd] at HD HN
      have HD2 := Lib.hid HD
      clear HD hl hd
      go_enter Tryz.func111, Tryz.ntmps111
      go_wp2_with fail
      refine HL2.out.mono ?_
      rintro e w' ⟨rfl, rfl⟩
      go_wp2_with fail
      refine HD2.out.mono ?_
      rintro e w' ⟨rfl, rfl⟩
      go_wp2_with fail
      go_ret
      exact ⟨retB (by rw [HN.out]; rfl), rfl⟩
  · rw [hl] at HL HN
    have HL2 := Lib.hid HL
    clear HL hl HD
    go_enter Tryz.func111, Tryz.ntmps111
    go_wp2_with fail
    refine HL2.out.mono ?_
    rintro e w' ⟨rfl, rfl⟩
    go_wp2_with fail
    go_ret
    exact ⟨retB (by rw [HN.out]; rfl), rfl⟩

set_option maxHeartbeats 2000000 in
theorem inAddress_any (c : UInt8) (w : World) :
    Calls Tryz.prog 110 #[.int .u8 (c.toNat : Int)] w fun e w' => e = .returned (.bool (inAddr c)) ∧ w = w' := by
  have hlt := c.toNat_lt
  have HD := Lib.hid (sdigit_any c w)
  have HN := Lib.hid (show inAddr c = (isDig c || decide (65 ≤ c.toNat ∧ c.toNat ≤ 70) || decide (97 ≤ c.toNat ∧ c.toNat ≤ 102) || decide (c.toNat = 58) || decide (c.toNat = 46)) from rfl)
  cases hd : isDig c
  · rw [hd] at HD HN
    clear hd
    generalize c.toNat = n at *
    by_cases h0 : 65 ≤ n <;> by_cases h1 : n ≤ 70 <;> by_cases h2 : 97 ≤ n <;> by_cases h3 : n ≤ 102 <;> by_cases h4 : n = 58 <;> by_cases h5 : n = 46
    all_goals
      first
      | omega
      | (first | (have e4 : ((n : Int) == 58) = true := (by rw [beq_iff_eq]; omega)) | (have e4 : ((n : Int) == 58) = false := (by rw [beq_eq_false_iff_ne]; omega))
         first | (have e5 : ((n : Int) == 46) = true := (by rw [beq_iff_eq]; omega)) | (have e5 : ((n : Int) == 46) = false := (by rw [beq_eq_false_iff_ne]; omega))
         have H4 := Lib.hid h4
         have H5 := Lib.hid h5
         clear h4 h5
         go_enter Tryz.func110, Tryz.ntmps110
         go_wp2_with fail
         refine HD.out.mono ?_
         rintro e w' ⟨rfl, rfl⟩
         go_wp2_with fail
         go_ret
         have h4 := H4.out
         have h5 := H5.out
         exact ⟨retB (by rw [HN.out, Bool.eq_iff_iff]; simp; omega), rfl⟩)
  · rw [hd] at HD HN
    clear hd
    generalize c.toNat = n at *
    go_enter Tryz.func110, Tryz.ntmps110
    go_wp2_with fail
    refine HD.out.mono ?_
    rintro e w' ⟨rfl, rfl⟩
    go_wp2_with fail
    go_ret
    exact ⟨retB (by rw [HN.out]; rfl), rfl⟩
end Tk
end Go.Proofs.YtpcdaaijlgilkaaGreatDoor
namespace Go.Proofs.YtpcdaaijlgilkaaGreatDoor
open Go.RowKit
namespace Tk

theorem bdraws (w : World) (n : Nat) : Below w.heap.size w (w.drewN n) := ⟨rfl, rfl, rfl, Nat.le_refl _, fun _ _ => rfl⟩

/-- a function of a byte that answers p -/
def PredF (F : FuncId) (p : UInt8 → Bool) : Prop :=
  (∀ args w, (callFunc F args).run Tryz.prog w = .ok (.enter F args) w) ∧ ∀ (c : UInt8) (W : World), Calls Tryz.prog F #[.int .u8 (c.toNat : Int)] W fun e w' => e = .returned (.bool (p c)) ∧ Below W.heap.size W w'
theorem predF_same {F : FuncId} {p : UInt8 → Bool} (h1 : ∀ args w, (callFunc F args).run Tryz.prog w = .ok (.enter F args) w) (h2 : ∀ (c : UInt8) (W : World), Calls Tryz.prog F #[.int .u8 (c.toNat : Int)] W fun e w' => e = .returned (.bool (p c)) ∧ W = w') : PredF F p :=
  ⟨h1, fun c W => (h2 c W).mono fun _ _ ⟨a, b⟩ => ⟨a, b ▸ Below.refl _ _⟩⟩

theorem all_cons2 (p : UInt8 → Bool) (c : UInt8) (t : Bs) : (c :: t).all p = (p c && t.all p) := rfl

set_option maxHeartbeats 1000000 in
set_option maxRecDepth 100000 in
theorem sall_any (F : FuncId) (p : UInt8 → Bool) (hp : PredF F p) (s : ByteArray) (w : World) (hs : s.size ≤ 1099511627776) :
    Calls Tryz.prog 69 #[.string s, .func (.func F) #[] #[]] w fun e w' => e = .returned (.bool ((bs s).all p)) ∧ Below w.heap.size w w' := by
  obtain ⟨eg, hp⟩ := hp
  have HPp := Lib.hid hp
  clear hp
  go_enter Tryz.func69, Tryz.ntmps69
  go_wp2_with fail
  go_loopw [8, 5] (fun v _ wr => ∃ i : Nat, i ≤ s.size ∧ v = .int .i64 i ∧ Hid (Below w.heap.size w wr) ∧ Hid ((bs s).all p = ((bs s).drop i).all p)) (fun v _ _ => s.size - (RowKit.intOf v).toNat)
  case atStart => exact ⟨0, Nat.zero_le _, rfl, Below.refl _ _, rfl⟩
  case round =>
    obtain ⟨i, hi, rfl, HB, hd⟩ := hrel
    rename World => W
    by_cases hlt : i < s.size
    · have D := Lib.hid (bs_drop s i hlt)
      have HC := HPp.out s[i] W
      cases hk : p s[i]
      · rw [hk] at HC
        have fin : (bs s).all p = false := by rw [hd.out, D.out, all_cons2, hk]; rfl
        have HF := Lib.hid fin
        have HC2 := Lib.hid HC
        clear fin HC hk
        go_wp2_with fail
        refine HC2.out.mono ?_
        rintro e w' ⟨rfl, hb⟩
        have HB2 := Lib.hid (HB.out.trans (hb.mono HB.out.size))
        clear hb
        go_wp2_with fail
        go_ret
        exact ⟨by rw [HF.out]; rfl, HB2.out⟩
      · rw [hk] at HC
        have nx : (bs s).all p = ((bs s).drop (i + 1)).all p := by rw [hd.out, D.out, all_cons2, hk, Bool.true_and]
        have HX := Lib.hid nx
        have HC2 := Lib.hid HC
        clear nx HC hk
        go_wp2_with fail
        refine HC2.out.mono ?_
        rintro e w' ⟨rfl, hb⟩
        have HB2 := Lib.hid (HB.out.trans (hb.mono HB.out.size))
        clear hb
        go_wp2_with fail
        exact ⟨⟨i + 1, by omega, by go_num, HB2, HX⟩, by simp [RowKit.intOf]; omega⟩
    · have fin : (bs s).all p = true := by rw [hd.out, List.drop_eq_nil_of_le (by rw [length_bs]; omega)]; rfl
      have HF := Lib.hid fin
      clear fin
      go_wp2_with fail
      go_ret
      exact ⟨by rw [HF.out]; rfl, HB.out⟩

set_option maxHeartbeats 1000000 in
set_option maxRecDepth 100000 in
theorem ssome_any (F : FuncId) (p : UInt8 → Bool) (hp : PredF F p) (s : ByteArray) (w : World) (hs : s.size ≤ 1099511627776) :
    Calls Tryz.prog 56 #[.string s, .func (.func F) #[] #[]] w fun e w' => e = .returned (.bool (someL p (bs s))) ∧ Below w.heap.size w w' := by
  have H := Lib.hid (sall_any F p hp s w hs)
  clear hp
  have hV : someL p (bs s) = (!(bs s).isEmpty && (bs s).all p) := rfl
  cases hb : (bs s).isEmpty
  · have HV := Lib.hid (show someL p (bs s) = (bs s).all p by rw [hV, hb]; rfl)
    have he : s.toList.isEmpty = false := by rw [toList_bs]; exact hb
    clear hb hV
    go_enter Tryz.func56, Tryz.ntmps56
    go_wp2_with fail
    refine H.out.mono ?_
    rintro e w' ⟨rfl, hb⟩
    have HB := Lib.hid hb
    clear hb
    go_wp2_with fail
    go_ret
    exact ⟨retB (by rw [HV.out]), HB.out⟩
  · have HV := Lib.hid (show someL p (bs s) = false by rw [hV, hb]; rfl)
    have he : s.toList.isEmpty = true := by rw [toList_bs]; exact hb
    clear hb hV
    go_enter Tryz.func56, Tryz.ntmps56
    go_wp2_with fail
    go_ret
    exact ⟨retB (by rw [HV.out]), Below.refl _ _⟩

theorem predDigit : PredF 87 isDig := predF_same (enters_of Tryz.func87 (by kernel_rfl) rfl) sdigit_any
theorem predVis : PredF 57 vis := predF_same (enters_of Tryz.func57 (by kernel_rfl) rfl) visible_any
theorem predName : PredF 111 inName := predF_same (enters_of Tryz.func111 (by kernel_rfl) rfl) inName_any
theorem predAddr : PredF 110 inAddr := predF_same (enters_of Tryz.func110 (by kernel_rfl) rfl) inAddress_any

theorem allDigit_any (s : ByteArray) (w : World) (hs : s.size ≤ 1099511627776) :
    Calls Tryz.prog 69 #[.string s, .func (.func 87) #[] #[]] w fun e w' => e = .returned (.bool ((bs s).all isDig)) ∧ Below w.heap.size w w' := sall_any _ _ predDigit s w hs
theorem someName_any (s : ByteArray) (w : World) (hs : s.size ≤ 1099511627776) :
    Calls Tryz.prog 56 #[.string s, .func (.func 111) #[] #[]] w fun e w' => e = .returned (.bool (someL inName (bs s))) ∧ Below w.heap.size w w' := ssome_any _ _ predName s w hs
theorem someAddr_any (s : ByteArray) (w : World) (hs : s.size ≤ 1099511627776) :
    Calls Tryz.prog 56 #[.string s, .func (.func 110) #[] #[]] w fun e w' => e = .returned (.bool (someL inAddr (bs s))) ∧ Below w.heap.size w w' := ssome_any _ _ predAddr s w hs
theorem someVis_any (s : ByteArray) (w : World) (hs : s.size ≤ 1099511627776) :
    Calls Tryz.prog 56 #[.string s, .func (.func 57) #[] #[]] w fun e w' => e = .returned (.bool (someL vis (bs s))) ∧ Below w.heap.size w w' := ssome_any _ _ predVis s w hs
end Tk
end Go.Proofs.YtpcdaaijlgilkaaGreatDoor
namespace Go.Proofs.YtpcdaaijlgilkaaGreatDoor
open Go.RowKit
namespace Tk

set_option maxHeartbeats 400000 in
theorem oneDigit_any (s : ByteArray) (w : World) :
    Calls Tryz.prog 73 #[.string s] w fun e w' => e = .returned (.bool (oneDig (bs s))) ∧ w = w' := by
  by_cases h1 : s.size = 1
  · have hp : 0 < s.size := by omega
    have hb : bs s = [s[0]] := by
      have e := bs_drop s 0 hp
      rw [List.drop_zero, List.drop_eq_nil_of_le (by rw [length_bs]; omega)] at e
      exact e
    have hv : oneDig (bs s) = isDig s[0] := by rw [hb]; unfold oneDig; simp
    have HV := Lib.hid hv
    have HD := Lib.hid (sdigit_any s[0] w)
    have e1 : ((s.size : Int) == 1) = true := by rw [beq_iff_eq]; omega
    clear hv hb h1
    go_enter Tryz.func73, Tryz.ntmps73
    go_wp2_with fail
    refine HD.out.mono ?_
    rintro e w' ⟨rfl, rfl⟩
    go_wp2_with fail
    go_ret
    exact ⟨retB (by rw [HV.out]), rfl⟩
  · have hv : oneDig (bs s) = false := by unfold oneDig; rw [length_bs, decide_eq_false h1]; rfl
    have HV := Lib.hid hv
    have e1 : ((s.size : Int) == 1) = false := by rw [beq_eq_false_iff_ne]; omega
    clear hv h1
    go_enter Tryz.func73, Tryz.ntmps73
    go_wp2_with fail
    go_ret
    exact ⟨retB (by rw [HV.out]), rfl⟩

set_option maxHeartbeats 400000 in
theorem supported_any (n : Int) (w : World) :
    Calls Tryz.prog 47 #[.int .i64 n] w fun e w' => e = .returned (.bool (decide (n = 0 ∨ n = 1))) ∧ w = w' := by
  by_cases h0 : n = 0
  · subst h0
    go_enter Tryz.func47, Tryz.ntmps47
    go_wp2_with fail
    go_ret
    exact ⟨rfl, rfl⟩
  · have e0 : (n == 0) = false := beq_eq_false_iff_ne.2 h0
    have HV := Lib.hid (show decide (n = 0 ∨ n = 1) = decide (n = 1) by simp [h0])
    clear h0
    go_enter Tryz.func47, Tryz.ntmps47
    go_wp2_with fail
    go_ret
    exact ⟨retB (by rw [HV.out]; rfl), rfl⟩

def VerPost (l : Bs) (w : World) (e : Ending) (w' : World) : Prop := e = .returned (.tuple #[.int .i64 (vMi l), .int .i64 (vSt l)]) ∧ Below w.heap.size w w'

theorem cutB_any (s : ByteArray) (c : UInt8) (w : World) (hs : s.size ≤ 1099511627776) :
    Calls Tryz.prog 62 #[.string s, .string ⟨#[c]⟩] w fun e w' => e = .returned (.tuple #[.string (mkS (cutL c (bs s)).1), .string (mkS (cutL c (bs s)).2.1), .bool (cutL c (bs s)).2.2]) ∧ Below w.heap.size w w' :=
  (cut_any s c w hs).mono fun _ _ ⟨h1, n, h2⟩ => ⟨h1, h2 ▸ bdraws w n⟩

theorem vN_len (l : Bs) : (vN l).length ≤ l.length := by
  unfold vN; split
  · rw [List.length_drop]; omega
  · exact Nat.le_refl _

theorem ne_str (A : Bs) (l : Bs) (h : A ≠ l) : ((mkS A).toList == l) = false := by
  rw [toList_bs, bs_mkS]; exact beq_eq_false_iff_ne.2 h
theorem eq_str (A : Bs) (l : Bs) (h : A = l) : ((mkS A).toList == l) = true := by
  rw [toList_bs, bs_mkS, h]; exact beq_self_eq_true l

theorem v_none (l : Bs) (h : vForm l = false) : vSt l = 400 ∧ vMi l = 0 := by
  have h1 : vSt l = 400 := by unfold vSt; rw [h]; rfl
  exact ⟨h1, by unfold vMi; rw [h1]; rfl⟩
theorem v_other (l : Bs) (h : vForm l = true) (hk : vKnown l = false) : vSt l = 505 ∧ vMi l = 0 := by
  have h1 : vSt l = 505 := by unfold vSt; rw [h, hk]; rfl
  exact ⟨h1, by unfold vMi; rw [h1]; rfl⟩
theorem v_known (l : Bs) (h : vForm l = true) (hk : vKnown l = true) : vSt l = 0 ∧ vMi l = ((vB l).getD 0 0).toNat - 48 := by
  have h1 : vSt l = 0 := by unfold vSt; rw [h, hk]; rfl
  exact ⟨h1, by unfold vMi; rw [h1]; rfl⟩

set_option maxHeartbeats 2000000 in
set_option maxRecDepth 100000 in
theorem version_any (s : ByteArray) (w : World) (hs : s.size ≤ 1099511627) :
    Calls Tryz.prog 63 #[.string s] w (VerPost (bs s) w) := by
  have hp := Tryz.strings_CutPrefix s ⟨#[72, 84, 84, 80, 47]⟩ w
  have hp2 : Calls Tryz.prog 72 #[.string s, .string ⟨#[72, 84, 84, 80, 47]⟩] w fun e w' => e = .returned (.tuple #[.string (mkS (vN (bs s))), .bool (httpL.isPrefixOf (bs s))]) ∧ w' = w := hp
  have hn := vN_len (bs s)
  rw [length_bs] at hn
  have hc := cutB_any (mkS (vN (bs s))) 46 w (by rw [size_mkS]; omega)
  rw [bs_mkS] at hc
  have hc2 : Calls Tryz.prog 62 #[.string (mkS (vN (bs s))), .string ⟨#[46]⟩] w fun e w' => e = .returned (.tuple #[.string (mkS (vA (bs s))), .string (mkS (vB (bs s))), .bool (cutL 46 (vN (bs s))).2.2]) ∧ Below w.heap.size w w' := hc
  have hA := fun W => oneDigit_any (mkS (vA (bs s))) W
  have hB := fun W => oneDigit_any (mkS (vB (bs s))) W
  rw [bs_mkS] at hA hB
  have hform : vForm (bs s) = (httpL.isPrefixOf (bs s) && (oneDig (vA (bs s)) && oneDig (vB (bs s)))) := rfl
  clear hp hc hn hs
  cases h1 : httpL.isPrefixOf (bs s)
  · rw [h1] at hp2 hform
    obtain ⟨r1, r2⟩ := v_none _ hform
    have R1 := Lib.hid r1
    have R2 := Lib.hid r2
    have HP := Lib.hid hp2
    have HC := Lib.hid hc2
    clear hp2 hc2 hA hB hform r1 r2 h1
    generalize (cutL 46 (vN (bs s))).2.2 = f at *
    go_enter Tryz.func63, Tryz.ntmps63
    go_wp2_with fail
    refine HP.out.mono ?_
    rintro e w' ⟨rfl, rfl⟩
    go_wp2_with fail
    refine HC.out.mono ?_
    rintro e w2 ⟨rfl, hb⟩
    have HB := Lib.hid hb
    clear hb
    go_wp2_with fail
    go_ret2
    exact ⟨by rw [R1.out, R2.out]; rfl, HB.out⟩
  · cases h2 : oneDig (vA (bs s))
    · rw [h2] at hA
      rw [h1, h2] at hform
      rw [h1] at hp2
      obtain ⟨r1, r2⟩ := v_none _ hform
      have R1 := Lib.hid r1
      have R2 := Lib.hid r2
      have HP := Lib.hid hp2
      have HC := Lib.hid hc2
      have HA := Lib.hid hA
      clear hp2 hc2 hA hB hform r1 r2 h1 h2
      generalize (cutL 46 (vN (bs s))).2.2 = f at *
      go_enter Tryz.func63, Tryz.ntmps63
      go_wp2_with fail
      refine HP.out.mono ?_
      rintro e w' ⟨rfl, rfl⟩
      go_wp2_with fail
      refine HC.out.mono ?_
      rintro e w2 ⟨rfl, hb⟩
      have HB := Lib.hid hb
      clear hb
      go_wp2_with fail
      refine (HA.out _).mono ?_
      rintro e w' ⟨rfl, rfl⟩
      go_wp2_with fail
      go_ret2
      exact ⟨by rw [R1.out, R2.out]; rfl, HB.out⟩
    · cases h3 : oneDig (vB (bs s))
      · rw [h2] at hA
        rw [h3] at hB
        rw [h1, h2, h3] at hform
        rw [h1] at hp2
        obtain ⟨r1, r2⟩ := v_none _ hform
        have R1 := Lib.hid r1
        have R2 := Lib.hid r2
        have HP := Lib.hid hp2
        have HC := Lib.hid hc2
        have HA := Lib.hid hA
        have HBd := Lib.hid hB
        clear hp2 hc2 hA hB hform r1 r2 h1 h2 h3
        generalize (cutL 46 (vN (bs s))).2.2 = f at *
        go_enter Tryz.func63, Tryz.ntmps63
        go_wp2_with fail
        refine HP.out.mono ?_
        rintro e w' ⟨rfl, rfl⟩
        go_wp2_with fail
        refine HC.out.mono ?_
        rintro e w2 ⟨rfl, hb⟩
        have HB := Lib.hid hb
        clear hb
        go_wp2_with fail
        refine (HA.out _).mono ?_
        rintro e w' ⟨rfl, rfl⟩
        go_wp2_with fail
        refine (HBd.out _).mono ?_
        rintro e w' ⟨rfl, rfl⟩
        go_wp2_with fail
        go_ret2
        exact ⟨by rw [R1.out, R2.out]; rfl, HB.out⟩
      · rw [h1, h2, h3] at hform
        obtain ⟨a, b, da, db, -, ea, eb⟩ := vForm_of _ hform
        rw [h2] at hA
        rw [h3] at hB
        rw [h1] at hp2
        have bda := dig_bd a da
        have bdb := dig_bd b db
        have hk : vKnown (bs s) = (decide (a = 49) && decide (b = 48 ∨ b = 49)) := by
          unfold vKnown; rw [ea, eb]; simp
        have hz : (mkS (vB (bs s))).size = 1 := by rw [size_mkS, eb]; rfl
        have hq : 0 < (mkS (vB (bs s))).size := by omega
        have hb0 : (mkS (vB (bs s)))[0] = b := by
          have := getD_bs (mkS (vB (bs s))) 0 hq
          rw [← this, bs_mkS, eb]; rfl
        have hb1 : (((mkS (vB (bs s)))[0]).toNat : Int) = (b.toNat : Int) := by rw [hb0]
        have HS := Lib.hid (fun W => supported_any ((b.toNat : Int) - 48) W)
        have hgd : (vB (bs s)).getD 0 0 = b := by rw [eb]; rfl
        have hvo := v_other (bs s) hform
        have hvk := v_known (bs s) hform
        rw [hgd] at hvk
        rw [hk] at hvo hvk
        have HP := Lib.hid hp2
        have HC := Lib.hid hc2
        have HA := Lib.hid hA
        have HBd := Lib.hid hB
        have k0 : (48 : Int) ≤ (b.toNat : Int) := by omega
        have k1 : (b.toNat : Int) ≤ 57 := by omega
        have HVO := Lib.hid hvo
        have HVK := Lib.hid hvk
        clear hp2 hc2 hA hB hform h1 h2 h3 hk hb0 hgd hvo hvk da db bda bdb
        by_cases h49 : a = 49
        · have es := eq_str _ _ (ea.trans (congrArg (fun x => [x]) h49))
          have hsup : decide ((b.toNat : Int) - 48 = 0 ∨ (b.toNat : Int) - 48 = 1) = decide (b = 48 ∨ b = 49) := by
            rw [Bool.eq_iff_iff]
            simp only [decide_eq_true_eq]
            rw [← UInt8.toNat_inj, ← UInt8.toNat_inj]
            show _ ↔ b.toNat = 48 ∨ b.toNat = 49
            omega
          rw [hsup] at HS
          clear ea eb hsup
          subst h49
          cases hd : decide (b = 48 ∨ b = 49)
          · rw [hd] at HS
            obtain ⟨r1, r2⟩ := HVO.out (by rw [hd]; rfl)
            have R1 := Lib.hid r1
            have R2 := Lib.hid r2
            clear hd r1 r2
            generalize mkS (vA (bs s)) = A at *
            generalize mkS (vB (bs s)) = B at *
            generalize (cutL 46 (vN (bs s))).2.2 = f at *
            go_enter Tryz.func63, Tryz.ntmps63
            go_wp2_with fail
            refine HP.out.mono ?_
            rintro e w' ⟨rfl, rfl⟩
            go_wp2_with fail
            refine HC.out.mono ?_
            rintro e w2 ⟨rfl, hb⟩
            have HB := Lib.hid hb
            clear hb
            go_wp2_with fail
            refine (HA.out _).mono ?_
            rintro e w' ⟨rfl, rfl⟩
            go_wp2_with fail
            refine (HBd.out _).mono ?_
            rintro e w' ⟨rfl, rfl⟩
            go_wp2_with fail
            refine (HS.out _).mono ?_
            rintro e w' ⟨rfl, rfl⟩
            go_wp2_with fail
            go_ret2
            exact ⟨by rw [R1.out, R2.out]; rfl, HB.out⟩
          · rw [hd] at HS
            obtain ⟨r1, r2⟩ := HVK.out (by rw [hd]; rfl)
            have r2' : ((vMi (bs s) : Nat) : Int) = (b.toNat : Int) - 48 := by omega
            have R1 := Lib.hid r1
            have R2 := Lib.hid r2'
            clear hd r1 r2 r2'
            generalize mkS (vA (bs s)) = A at *
            generalize mkS (vB (bs s)) = B at *
            generalize (cutL 46 (vN (bs s))).2.2 = f at *
            go_enter Tryz.func63, Tryz.ntmps63
            go_wp2_with fail
            refine HP.out.mono ?_
            rintro e w' ⟨rfl, rfl⟩
            go_wp2_with fail
            refine HC.out.mono ?_
            rintro e w2 ⟨rfl, hb⟩
            have HB := Lib.hid hb
            clear hb
            go_wp2_with fail
            refine (HA.out _).mono ?_
            rintro e w' ⟨rfl, rfl⟩
            go_wp2_with fail
            refine (HBd.out _).mono ?_
            rintro e w' ⟨rfl, rfl⟩
            go_wp2_with fail
            refine (HS.out _).mono ?_
            rintro e w' ⟨rfl, rfl⟩
            go_wp2_with fail
            go_ret2
            exact ⟨by rw [R1.out, R2.out]; rfl, HB.out⟩
        · have es := ne_str (vA (bs s)) [49] (by rw [ea]; simpa using h49)
          obtain ⟨r1, r2⟩ := HVO.out (by rw [decide_eq_false h49]; rfl)
          have R1 := Lib.hid r1
          have R2 := Lib.hid r2
          clear ea eb h49 r1 r2
          generalize mkS (vA (bs s)) = A at *
          generalize mkS (vB (bs s)) = B at *
          generalize (cutL 46 (vN (bs s))).2.2 = f at *
          go_enter Tryz.func63, Tryz.ntmps63
          go_wp2_with fail
          refine HP.out.mono ?_
          rintro e w' ⟨rfl, rfl⟩
          go_wp2_with fail
          refine HC.out.mono ?_
          rintro e w2 ⟨rfl, hb⟩
          have HB := Lib.hid hb
          clear hb
          go_wp2_with fail
          refine (HA.out _).mono ?_
          rintro e w' ⟨rfl, rfl⟩
          go_wp2_with fail
          refine (HBd.out _).mono ?_
          rintro e w' ⟨rfl, rfl⟩
          go_wp2_with fail
          go_ret2
          exact ⟨by rw [R1.out, R2.out]; rfl, HB.out⟩
end Tk
end Go.Proofs.YtpcdaaijlgilkaaGreatDoor
namespace Go.Proofs.YtpcdaaijlgilkaaGreatDoor
open Go.RowKit
namespace Tk

theorem cutl1 (c : UInt8) (l : Bs) : (cutL c l).1.length ≤ l.length := by
  unfold cutL
  split
  · exact (List.takeWhile_sublist (· != c) (l := l)).length_le
  · exact Nat.le_refl _
theorem cutl2 (c : UInt8) (l : Bs) : (cutL c l).2.1.length ≤ l.length := by
  unfold cutL
  split
  · refine Nat.le_trans (by simp) ((List.dropWhile_sublist (· != c) (l := l)).length_le)
  · simp

def CutPPost (l : Bs) (w : World) (e : Ending) (w' : World) : Prop := e = .returned (.tuple #[.string (mkS (hostN l)), .string (mkS (hostP l))]) ∧ Below w.heap.size w w'

set_option maxHeartbeats 1000000 in
set_option maxRecDepth 100000 in
theorem cutPort_any (s : ByteArray) (w : World) (hs : s.size ≤ 1099511627) :
    Calls Tryz.prog 108 #[.string s] w (CutPPost (bs s) w) := by
  have hx := Tryz.strings_IndexByte s 93 w
  have hx2 : Calls Tryz.prog 136 #[.string s, .int .u8 93] w fun e w' => e = .returned (.int .i64 (Lib.indexByte (bs s) 93)) ∧ w' = w := hx
  have hg := Lib.indexByte_ge (bs s) 93
  have hi : Lib.indexByte (bs s) 93 = (cIn (bs s) : Int) - 1 := by unfold cIn; omega
  have hle := cIn_le (bs s)
  rw [length_bs] at hle
  have hN : hostN (bs s) = (bs s).take (cIn (bs s) + (cutL 58 ((bs s).drop (cIn (bs s)))).1.length) := rfl
  have hP : hostP (bs s) = (cutL 58 ((bs s).drop (cIn (bs s)))).2.1 := rfl
  have hl := cutl1 58 ((bs s).drop (cIn (bs s)))
  rw [List.length_drop, length_bs] at hl
  rw [hi] at hx2
  generalize cIn (bs s) = i at *
  have hd : bs (s.extract i s.size) = (bs s).drop i := by
    rw [bs_extract, List.take_of_length_le (by rw [List.length_drop, length_bs]; exact Nat.le_refl _)]
  have hez : (s.extract i s.size).size = s.size - i := by rw [← length_bs, hd, List.length_drop, length_bs]
  have hc := cutB_any (s.extract i s.size) 58 w (by omega)
  rw [hd] at hc
  have htk : mkS ((bs s).take (i + (cutL 58 ((bs s).drop i)).1.length)) = s.extract 0 (i + (cutL 58 ((bs s).drop i)).1.length) := by rw [extract_mkS]; simp
  have hz1 : (mkS (cutL 58 ((bs s).drop i)).1).size = (cutL 58 ((bs s).drop i)).1.length := size_mkS _
  rw [← hN] at htk
  have HZ := Lib.hid hz1
  generalize (cutL 58 ((bs s).drop i)).1.length = k at *
  rw [← hP] at hc
  generalize mkS (cutL 58 ((bs s).drop i)).1 = A at *
  generalize (cutL 58 ((bs s).drop i)).2.2 = f at *
  have HX := Lib.hid hx2
  have HC := Lib.hid hc
  have HT := Lib.hid htk
  have hzz : A.size = k := HZ.out
  clear hx hx2 hg hi hN hP hd hez hc htk hz1 HZ
  subst hzz
  go_enter Tryz.func108, Tryz.ntmps108
  go_wp2_with fail
  refine HX.out.mono ?_
  rintro e w' ⟨rfl, rfl⟩
  go_wp2_with fail
  refine HC.out.mono ?_
  rintro e w2 ⟨rfl, hb⟩
  have HB := Lib.hid hb
  clear hb
  go_wp2_with fail
  go_ret2
  exact ⟨by rw [HT.out]; rfl, HB.out⟩

theorem hostN_len (l : Bs) : (hostN l).length ≤ l.length := by
  unfold hostN; rw [List.length_take]; omega
theorem hostP_len (l : Bs) : (hostP l).length ≤ l.length := by
  unfold hostP
  have := cutl2 58 (l.drop (cIn l))
  rw [List.length_drop] at this
  omega

theorem trim_pre (n : Bs) : Lib.trimPrefix n [91] = if Lib.hasPrefix n [91] then n.drop 1 else n := rfl
theorem trim_suf (n : Bs) : Lib.trimSuffix n [93] = if Lib.hasSuffix n [93] then n.take (n.length - 1) else n := rfl

set_option maxHeartbeats 4000000 in
set_option maxRecDepth 100000 in
theorem host_any (s : ByteArray) (w : World) (hs : s.size ≤ 1099511627) :
    Calls Tryz.prog 89 #[.string s] w fun e w' => e = .returned (.bool (hostL (bs s))) ∧ Below w.heap.size w w' := by
  have HC := Lib.hid (cutPort_any s w hs)
  unfold CutPPost at HC
  have hn := hostN_len (bs s)
  have hp := hostP_len (bs s)
  rw [length_bs] at hn hp
  have hpz := size_mkS (hostP (bs s))
  have hnz := size_mkS (hostN (bs s))
  have hV : hostL (bs s) = (portOk (hostP (bs s)) && nameOk (hostN (bs s))) := rfl
  have hdg := fun W => allDigit_any (mkS (hostP (bs s))) W (by rw [hpz]; omega)
  rw [bs_mkS] at hdg
  have hpre := fun W => Tryz.strings_CutPrefix (mkS (hostN (bs s))) ⟨#[91]⟩ W
  have hpre2 : ∀ W, Calls Tryz.prog 72 #[.string (mkS (hostN (bs s))), .string ⟨#[91]⟩] W fun e w' => e = .returned (.tuple #[.string (mkS (Lib.trimPrefix (hostN (bs s)) [91])), .bool (Lib.hasPrefix (hostN (bs s)) [91])]) ∧ w' = W := hpre
  clear hpre
  by_cases h5 : (hostP (bs s)).length ≤ 5
  · cases hd : (hostP (bs s)).all isDig
    · rw [hd] at hdg
      have hv : hostL (bs s) = false := by rw [hV]; unfold portOk; rw [hd]; simp
      have HV := Lib.hid hv
      have HD := Lib.hid hdg
      have h5' : ¬ (5 : Int) < ((mkS (hostP (bs s))).size : Int) := by omega
      clear hV hv hdg hpre2 hd h5 hpz hnz hn hp
      generalize mkS (hostP (bs s)) = P at *
      generalize mkS (hostN (bs s)) = N at *
      go_enter Tryz.func89, Tryz.ntmps89
      go_wp2_with fail
      refine HC.out.mono ?_
      rintro e w' ⟨rfl, hb⟩
      have HB := Lib.hid hb
      clear hb
      go_wp2_with fail
      refine (HD.out _).mono ?_
      rintro e w2 ⟨rfl, hb⟩
      have HB2 := Lib.hid (HB.out.trans (hb.mono HB.out.size))
      clear hb
      go_wp2_with fail
      go_ret
      exact ⟨retB (by rw [HV.out]), HB2.out⟩
    · rw [hd] at hdg
      have hv : hostL (bs s) = nameOk (hostN (bs s)) := by rw [hV]; unfold portOk; rw [hd, decide_eq_true h5]; rfl
      have HD := Lib.hid hdg
      have h5' : ¬ (5 : Int) < ((mkS (hostP (bs s))).size : Int) := by omega
      cases hq : Lib.hasPrefix (hostN (bs s)) [91]
      · rw [trim_pre, hq] at hpre2
        have hv2 : hostL (bs s) = someL inName (hostN (bs s)) := by rw [hv]; unfold nameOk; rw [hq]; rfl
        have hsm := fun W => someName_any (mkS (hostN (bs s))) W (by rw [hnz]; omega)
        rw [bs_mkS] at hsm
        have HS := Lib.hid hsm
        have HV := Lib.hid hv2
        have HP := Lib.hid hpre2
        clear hV hv hv2 hdg hpre2 hd h5 hpz hnz hn hp hq hsm
        generalize mkS (hostP (bs s)) = P at *
        go_enter Tryz.func89, Tryz.ntmps89
        go_wp2_with fail
        refine HC.out.mono ?_
        rintro e w' ⟨rfl, hb⟩
        have HB := Lib.hid hb
        clear hb
        go_wp2_with fail
        refine (HD.out _).mono ?_
        rintro e w2 ⟨rfl, hb⟩
        have HB2 := Lib.hid (HB.out.trans (hb.mono HB.out.size))
        clear hb
        go_wp2_with fail
        refine (HP.out _).mono ?_
        rintro e w' ⟨rfl, rfl⟩
        go_wp2_with fail
        refine (HS.out _).mono ?_
        rintro e w3 ⟨rfl, hb⟩
        have HB3 := Lib.hid (HB2.out.trans (hb.mono HB2.out.size))
        clear hb
        go_wp2_with fail
        go_ret
        exact ⟨retB (by rw [HV.out]), HB3.out⟩
      · rw [trim_pre, hq] at hpre2
        have hv2 : hostL (bs s) = brOk (hostN (bs s)) := by rw [hv]; unfold nameOk; rw [hq]; rfl
        have hdl : ((hostN (bs s)).drop 1).length ≤ s.size := by rw [List.length_drop]; omega
        have hbr : brOk (hostN (bs s)) = (Lib.hasSuffix ((hostN (bs s)).drop 1) [93] && someL inAddr (((hostN (bs s)).drop 1).take (((hostN (bs s)).drop 1).length - 1))) := rfl
        rw [hbr] at hv2
        have hpre3 : ∀ W, Calls Tryz.prog 72 #[.string (mkS (hostN (bs s))), .string ⟨#[91]⟩] W fun e w' => e = .returned (.tuple #[.string (mkS ((hostN (bs s)).drop 1)), .bool true]) ∧ w' = W := hpre2
        generalize (hostN (bs s)).drop 1 = D at *
        have hsuf := fun W => Tryz.strings_CutSuffix (mkS D) ⟨#[93]⟩ W (by rw [size_mkS]; omega)
        have hsuf2 : ∀ W, Calls Tryz.prog 109 #[.string (mkS D), .string ⟨#[93]⟩] W fun e w' => e = .returned (.tuple #[.string (mkS (Lib.trimSuffix D [93])), .bool (Lib.hasSuffix D [93])]) ∧ w' = W := hsuf
        cases hf : Lib.hasSuffix D [93]
        · rw [trim_suf, hf] at hsuf2
          have hv3 : hostL (bs s) = false := by rw [hv2, hf]; rfl
          have HV := Lib.hid hv3
          have HP := Lib.hid hpre3
          have HU := Lib.hid hsuf2
          clear hV hv hv2 hv3 hbr hdg hpre2 hpre3 hsuf hsuf2 hd h5 hpz hnz hn hp hq hdl hf
          generalize mkS (hostP (bs s)) = P at *
          generalize mkS (hostN (bs s)) = N at *
          go_enter Tryz.func89, Tryz.ntmps89
          go_wp2_with fail
          refine HC.out.mono ?_
          rintro e w' ⟨rfl, hb⟩
          have HB := Lib.hid hb
          clear hb
          go_wp2_with fail
          refine (HD.out _).mono ?_
          rintro e w2 ⟨rfl, hb⟩
          have HB2 := Lib.hid (HB.out.trans (hb.mono HB.out.size))
          clear hb
          go_wp2_with fail
          refine (HP.out _).mono ?_
          rintro e w' ⟨rfl, rfl⟩
          go_wp2_with fail
          refine (HU.out _).mono ?_
          rintro e w' ⟨rfl, rfl⟩
          go_wp2_with fail
          go_ret
          exact ⟨retB (by rw [HV.out]), HB2.out⟩
        · rw [trim_suf, hf] at hsuf2
          have hv3 : hostL (bs s) = someL inAddr (D.take (D.length - 1)) := by rw [hv2, hf]; rfl
          have hsuf3 : ∀ W, Calls Tryz.prog 109 #[.string (mkS D), .string ⟨#[93]⟩] W fun e w' => e = .returned (.tuple #[.string (mkS (D.take (D.length - 1))), .bool true]) ∧ w' = W := hsuf2
          have hsm := fun W => someAddr_any (mkS (D.take (D.length - 1))) W (by rw [size_mkS, List.length_take]; omega)
          rw [bs_mkS] at hsm
          have HS := Lib.hid hsm
          have HV := Lib.hid hv3
          have HP := Lib.hid hpre3
          have HU := Lib.hid hsuf3
          clear hV hv hv2 hv3 hbr hdg hpre2 hpre3 hsuf hsuf2 hsuf3 hd h5 hpz hnz hn hp hq hdl hf hsm
          generalize D.take (D.length - 1) = E at *
          generalize mkS (hostP (bs s)) = P at *
          generalize mkS (hostN (bs s)) = N at *
          go_enter Tryz.func89, Tryz.ntmps89
          go_wp2_with fail
          refine HC.out.mono ?_
          rintro e w' ⟨rfl, hb⟩
          have HB := Lib.hid hb
          clear hb
          go_wp2_with fail
          refine (HD.out _).mono ?_
          rintro e w2 ⟨rfl, hb⟩
          have HB2 := Lib.hid (HB.out.trans (hb.mono HB.out.size))
          clear hb
          go_wp2_with fail
          refine (HP.out _).mono ?_
          rintro e w' ⟨rfl, rfl⟩
          go_wp2_with fail
          refine (HU.out _).mono ?_
          rintro e w' ⟨rfl, rfl⟩
          go_wp2_with fail
          refine (HS.out _).mono ?_
          rintro e w3 ⟨rfl, hb⟩
          have HB3 := Lib.hid (HB2.out.trans (hb.mono HB2.out.size))
          clear hb
          go_wp2_with fail
          go_ret
          exact ⟨retB (by rw [HV.out]), HB3.out⟩
  · have hv : hostL (bs s) = false := by rw [hV]; unfold portOk; rw [decide_eq_false h5]; rfl
    have HV := Lib.hid hv
    have h5' : (5 : Int) < ((mkS (hostP (bs s))).size : Int) := by omega
    clear hV hv hdg hpre2 h5 hpz hnz hn hp
    generalize mkS (hostP (bs s)) = P at *
    generalize mkS (hostN (bs s)) = N at *
    go_enter Tryz.func89, Tryz.ntmps89
    go_wp2_with fail
    refine HC.out.mono ?_
    rintro e w' ⟨rfl, hb⟩
    have HB := Lib.hid hb
    clear hb
    go_wp2_with fail
    go_ret
    exact ⟨retB (by rw [HV.out]), HB.out⟩
end Tk
end Go.Proofs.YtpcdaaijlgilkaaGreatDoor
namespace Go.Proofs.YtpcdaaijlgilkaaGreatDoor
open Go.RowKit
namespace Tk

theorem results_tmp4 {fn : Func} {t u v x : Tmp} (h : fn.results = #[.tmp t, .tmp u, .tmp v, .tmp x]) (tmps : Array Value) (P : Program) (w : World) :
    (results fn tmps).run P w = .ok (.tuple #[tmps.getD t undef, tmps.getD u undef, tmps.getD v undef, tmps.getD x undef]) w := by
  simp [results, h]

set_option maxHeartbeats 1000000 in
set_option maxRecDepth 100000 in
theorem inRequest_any (m t : ByteArray) (w : World) (hm : m.size ≤ 1099511627776) (ht : t.size ≤ 1099511627776) :
    Calls Tryz.prog 46 #[.string m, .string t] w fun e w' => e = .returned (.bool (rIn (bs m) (bs t))) ∧ Below w.heap.size w w' := by
  have HT := token_any m w hm
  have HS := Lib.hid (fun W => someVis_any t W ht)
  have hV : rIn (bs m) (bs t) = (tokL (bs m) && someL vis (bs t)) := rfl
  have hT : tokL (bs m) = (!(bs m).isEmpty && allL 2 (bs m)) := rfl
  rw [← hT] at HT
  cases hk : tokL (bs m)
  · rw [hk] at HT
    have HV := Lib.hid (show rIn (bs m) (bs t) = false by rw [hV, hk]; rfl)
    have HT2 := Lib.hid HT
    clear hV hT hk HT HS
    go_enter Tryz.func46, Tryz.ntmps46
    go_wp2_with fail
    refine HT2.out.mono ?_
    rintro e w' ⟨rfl, hb⟩
    have HB := Lib.hid hb
    clear hb
    go_wp2_with fail
    go_ret
    exact ⟨retB (by rw [HV.out]), HB.out⟩
  · rw [hk] at HT
    have HV := Lib.hid (show rIn (bs m) (bs t) = someL vis (bs t) by rw [hV, hk]; rfl)
    have HT2 := Lib.hid HT
    clear hV hT hk HT
    go_enter Tryz.func46, Tryz.ntmps46
    go_wp2_with fail
    refine HT2.out.mono ?_
    rintro e w' ⟨rfl, hb⟩
    have HB := Lib.hid hb
    clear hb
    go_wp2_with fail
    refine (HS.out _).mono ?_
    rintro e w2 ⟨rfl, hb⟩
    have HB2 := Lib.hid (HB.out.trans (hb.mono HB.out.size))
    clear hb
    go_wp2_with fail
    go_ret
    exact ⟨retB (by rw [HV.out]), HB2.out⟩

def ReqPost (l : Bs) (w : World) (e : Ending) (w' : World) : Prop := e = .returned (.tuple #[.string (mkS (reqM l)), .string (mkS (reqT l)), .int .i64 (reqN l), .int .i64 (rSt l)]) ∧ Below w.heap.size w w'

theorem req_bad (l : Bs) (n : Nat) (h : rSt l = n) (hn : n ≠ 0) : reqM l = [] ∧ reqT l = [] ∧ reqN l = 0 := by
  unfold reqM reqT reqN
  rw [if_neg (by omega), if_neg (by omega), if_neg (by omega)]
  exact ⟨rfl, rfl, rfl⟩

set_option maxHeartbeats 4000000 in
set_option maxRecDepth 100000 in
theorem request_any (s : ByteArray) (w : World) (hs : s.size ≤ 1099511627) :
    Calls Tryz.prog 61 #[.string s] w (ReqPost (bs s) w) := by
  have l1 := cutl1 32 (bs s)
  have l2 := cutl2 32 (bs s)
  have l3 := cutl1 32 (cutL 32 (bs s)).2.1
  have l4 := cutl2 32 (cutL 32 (bs s)).2.1
  rw [length_bs] at l1 l2
  have hc1 := cutB_any s 32 w (by omega)
  have hc2 := fun W => cutB_any (mkS (cutL 32 (bs s)).2.1) 32 W (by rw [size_mkS]; omega)
  rw [bs_mkS] at hc2
  have hv := fun W => version_any (mkS (rV (bs s))) W (by rw [size_mkS]; unfold rV; omega)
  unfold VerPost at hv
  have hq := fun W => inRequest_any (mkS (rM (bs s))) (mkS (rT (bs s))) W (by rw [size_mkS]; unfold rM; omega) (by rw [size_mkS]; unfold rT; omega)
  have hk1 := fun W => clone_any (mkS (rM (bs s))) W (by rw [size_mkS]; unfold rM; omega)
  have hk2 := fun W => clone_any (mkS (rT (bs s))) W (by rw [size_mkS]; unfold rT; omega)
  rw [bs_mkS] at hv hk1 hk2
  rw [bs_mkS, bs_mkS] at hq
  have hS : rSt (bs s) = if rIn (rM (bs s)) (rT (bs s)) then vSt (rV (bs s)) else 400 := rfl
  have hvm : vSt (rV (bs s)) = 0 → reqM (bs s) = rM (bs s) ∧ reqT (bs s) = rT (bs s) ∧ reqN (bs s) = vMi (rV (bs s)) ∨ rSt (bs s) ≠ 0 := by
    intro _
    by_cases h : rSt (bs s) = 0
    · left; unfold reqM reqT reqN; rw [if_pos h, if_pos h, if_pos h]; exact ⟨rfl, rfl, rfl⟩
    · exact .inr h
  have hb := req_bad (bs s)
  have hc1' : Calls Tryz.prog 62 #[.string s, .string ⟨#[32]⟩] w fun e w' => e = .returned (.tuple #[.string (mkS (rM (bs s))), .string (mkS (cutL 32 (bs s)).2.1), .bool (cutL 32 (bs s)).2.2]) ∧ Below w.heap.size w w' := hc1
  have hc2' : ∀ W, Calls Tryz.prog 62 #[.string (mkS (cutL 32 (bs s)).2.1), .string ⟨#[32]⟩] W fun e w' => e = .returned (.tuple #[.string (mkS (rT (bs s))), .string (mkS (rV (bs s))), .bool (cutL 32 (cutL 32 (bs s)).2.1).2.2]) ∧ Below W.heap.size W w' := hc2
  clear l1 l2 l3 l4 hc1 hc2
  generalize (cutL 32 (cutL 32 (bs s)).2.1).2.2 = f2 at *
  generalize mkS (cutL 32 (bs s)).2.1 = R at *
  generalize (cutL 32 (bs s)).2.2 = f1 at *
  have HC1 := Lib.hid hc1'
  have HC2 := Lib.hid hc2'
  have HV := Lib.hid hv
  have HK1 := Lib.hid hk1
  have HK2 := Lib.hid hk2
  clear hc1' hc2' hv hk1 hk2
  cases hin : rIn (rM (bs s)) (rT (bs s))
  · rw [hin] at hq hS
    have hS2 : rSt (bs s) = 400 := hS
    obtain ⟨b1, b2, b3⟩ := hb 400 hS2 (by omega)
    have H1 := Lib.hid hS2
    have H2 := Lib.hid b1
    have H3 := Lib.hid b2
    have H4 := Lib.hid b3
    have HQ := Lib.hid hq
    clear hS hS2 b1 b2 b3 hq hb hvm hin
    generalize mkS (rM (bs s)) = M at *
    generalize mkS (rT (bs s)) = T at *
    generalize mkS (rV (bs s)) = V at *
    generalize vMi (rV (bs s)) = n at *
    generalize vSt (rV (bs s)) = st at *
    go_enter Tryz.func61, Tryz.ntmps61
    go_wp2_with fail
    refine HC1.out.mono ?_
    rintro e w1 ⟨rfl, hb⟩
    have HB := Lib.hid hb
    clear hb
    go_wp2_with fail
    refine (HC2.out _).mono ?_
    rintro e w2 ⟨rfl, hb⟩
    have HB2 := Lib.hid (HB.out.trans (hb.mono HB.out.size))
    clear hb
    go_wp2_with fail
    refine (HV.out _).mono ?_
    rintro e w3 ⟨rfl, hb⟩
    have HB3 := Lib.hid (HB2.out.trans (hb.mono HB2.out.size))
    clear hb
    go_wp2_with fail
    refine (HQ.out _).mono ?_
    rintro e w4 ⟨rfl, hb⟩
    have HB4 := Lib.hid (HB3.out.trans (hb.mono HB3.out.size))
    clear hb
    go_wp2_with fail
    try simp only [Exit.inBlock, Exit.then]
    refine bodyPost_ret (results_tmp4 rfl _ _ _) rfl ⟨?_, HB4.out⟩
    rw [H1.out, H2.out, H3.out, H4.out]; rfl
  · rw [hin] at hq hS
    have HQ := Lib.hid hq
    have hS2 : rSt (bs s) = vSt (rV (bs s)) := hS
    clear hq hS hin
    by_cases h0 : vSt (rV (bs s)) = 0
    · have e0 : ((vSt (rV (bs s)) : Int) != 0) = false := by rw [bne_eq_false_iff_eq]; omega
      have h0' : rSt (bs s) = 0 := hS2.trans h0
      obtain ⟨b1, b2, b3⟩ : reqM (bs s) = rM (bs s) ∧ reqT (bs s) = rT (bs s) ∧ reqN (bs s) = vMi (rV (bs s)) := by
        rcases hvm h0 with h | h
        · exact h
        · exact absurd h0' h
      have H1 := Lib.hid h0'
      have H2 := Lib.hid b1
      have H3 := Lib.hid b2
      have H4 := Lib.hid b3
      clear hS2 h0 h0' b1 b2 b3 hb hvm
      generalize mkS (rV (bs s)) = V at *
      generalize vMi (rV (bs s)) = n at *
      generalize vSt (rV (bs s)) = st at *
      go_enter Tryz.func61, Tryz.ntmps61
      go_wp2_with fail
      refine HC1.out.mono ?_
      rintro e w1 ⟨rfl, hb⟩
      have HB := Lib.hid hb
      clear hb
      go_wp2_with fail
      refine (HC2.out _).mono ?_
      rintro e w2 ⟨rfl, hb⟩
      have HB2 := Lib.hid (HB.out.trans (hb.mono HB.out.size))
      clear hb
      go_wp2_with fail
      refine (HV.out _).mono ?_
      rintro e w3 ⟨rfl, hb⟩
      have HB3 := Lib.hid (HB2.out.trans (hb.mono HB2.out.size))
      clear hb
      go_wp2_with fail
      refine (HQ.out _).mono ?_
      rintro e w4 ⟨rfl, hb⟩
      have HB4 := Lib.hid (HB3.out.trans (hb.mono HB3.out.size))
      clear hb
      go_wp2_with fail
      refine (HK1.out _).mono ?_
      rintro e w5 ⟨rfl, hb⟩
      have HB5 := Lib.hid (HB4.out.trans (hb.mono HB4.out.size))
      clear hb
      go_wp2_with fail
      refine (HK2.out _).mono ?_
      rintro e w6 ⟨rfl, hb⟩
      have HB6 := Lib.hid (HB5.out.trans (hb.mono HB5.out.size))
      clear hb
      go_wp2_with fail
      try simp only [Exit.inBlock, Exit.then]
      refine bodyPost_ret (results_tmp4 rfl _ _ _) rfl ⟨?_, HB6.out⟩
      rw [H1.out, H2.out, H3.out, H4.out]; rfl
    · have e0 : ((vSt (rV (bs s)) : Int) != 0) = true := by rw [bne_iff_ne]; omega
      obtain ⟨b1, b2, b3⟩ := hb _ hS2 h0
      have H1 := Lib.hid hS2
      have H2 := Lib.hid b1
      have H3 := Lib.hid b2
      have H4 := Lib.hid b3
      clear hS2 h0 b1 b2 b3 hb hvm
      generalize mkS (rM (bs s)) = M at *
      generalize mkS (rT (bs s)) = T at *
      generalize mkS (rV (bs s)) = V at *
      generalize vMi (rV (bs s)) = n at *
      generalize vSt (rV (bs s)) = st at *
      go_enter Tryz.func61, Tryz.ntmps61
      go_wp2_with fail
      refine HC1.out.mono ?_
      rintro e w1 ⟨rfl, hb⟩
      have HB := Lib.hid hb
      clear hb
      go_wp2_with fail
      refine (HC2.out _).mono ?_
      rintro e w2 ⟨rfl, hb⟩
      have HB2 := Lib.hid (HB.out.trans (hb.mono HB.out.size))
      clear hb
      go_wp2_with fail
      refine (HV.out _).mono ?_
      rintro e w3 ⟨rfl, hb⟩
      have HB3 := Lib.hid (HB2.out.trans (hb.mono HB2.out.size))
      clear hb
      go_wp2_with fail
      refine (HQ.out _).mono ?_
      rintro e w4 ⟨rfl, hb⟩
      have HB4 := Lib.hid (HB3.out.trans (hb.mono HB3.out.size))
      clear hb
      go_wp2_with fail
      try simp only [Exit.inBlock, Exit.then]
      refine bodyPost_ret (results_tmp4 rfl _ _ _) rfl ⟨?_, HB4.out⟩
      rw [H1.out, H2.out, H3.out, H4.out]; rfl
end Tk
end Go.Proofs.YtpcdaaijlgilkaaGreatDoor
namespace Go.Proofs.YtpcdaaijlgilkaaGreatDoor
open Go.RowKit
namespace Tk

variable {B b : Nat} {s : Pr} {q z lf : Nat} {V : PV} {X : Nat → Prop} {w : World}
/-- the cells of a message -/
def msgL (m : Msg) (vf vt : Value) : List Value := [.string (mkS m.m), .string (mkS m.t), .int .i64 m.st, .string (mkS m.r), .int .i64 m.mi, vf, .string (mkS m.body), vt]

set_option maxHeartbeats 4000000 in
set_option maxRecDepth 100000 in
theorem hostFits_any (m : Msg) (vf vt : Value) (w : World) (hs : IsFlds w vf m.f) (hz : sumF m.f ≤ 1000000) :
    Calls Tryz.prog 75 #[.agg #[.string (mkS m.m), .string (mkS m.t), .int .i64 m.st, .string (mkS m.r), .int .i64 m.mi, vf, .string (mkS m.body), vt]] w fun e w' => e = .returned (.bool (hostFit m)) ∧ Below w.heap.size w w' := by
  obtain ⟨a, cap, rfl⟩ : ∃ a cap, vf = .slice a m.f.length cap := by obtain ⟨a, c, h, -⟩ := hs; exact ⟨a, c, h⟩
  have hb0 : Below w.heap.size w (w.alloc (.cells #[.string (mkS m.m), .string (mkS m.t), .int .i64 m.st, .string (mkS m.r), .int .i64 m.mi, .slice a m.f.length cap, .string (mkS m.body), vt] 32)) := (Below.refl _ _).alloc (Nat.le_refl _) _
  have hg := sumF_ge m.f
  have hz2 := sum_each m.f (by omega)
  have hA := fall_any (.slice a m.f.length cap) m.f nmHost _ (isFlds_below hs hb0) hz2 (by decide) (by omega)
  have hle := fun p hp => all_piece nmHost m.f p hp
  have hln := allF_len m.f nmHost
  have hblk := heap_alloc_last w (Obj.cells #[.string (mkS m.m), .string (mkS m.t), .int .i64 m.st, .string (mkS m.r), .int .i64 m.mi, .slice a m.f.length cap, .string (mkS m.body), vt] 32)
  have hH : hostFit m = if (allF m.f nmHost).length = 0 then decide (m.mi = 0) else decide ((allF m.f nmHost).length = 1) && (decide ((allF m.f nmHost).headD [] = []) || hostL ((allF m.f nmHost).headD [])) := rfl
  unfold ListPost at hA
  generalize hF : hostFit m = F at *
  have HA := Lib.hid hA
  have HH := Lib.hid hH
  have HB0 := Lib.hid hb0
  have HBl := Lib.hid hblk
  have HLe := Lib.hid hle
  clear hF hA hH hb0 hblk hle hz2 hg hs
  generalize mkS m.m = x0 at *
  generalize mkS m.t = x1 at *
  generalize mkS m.r = x3 at *
  generalize mkS m.body = x6 at *
  have hpl : ∀ p ∈ allF m.f nmHost, p.length ≤ 1099511627 := fun p hp => by have := HLe.out p hp; omega
  have HPl := Lib.hid hpl
  clear hpl hz HLe
  generalize allF m.f nmHost = P at *
  match P, HH, HA, HPl, hln with
  | [], HH, HA, _, _ =>
    have hH2 : F = decide (m.mi = 0) := HH.out
    by_cases h0 : m.mi = 0
    · have e0 : ((m.mi : Int) == 0) = true := by simp [h0]
      rw [decide_eq_true h0] at hH2
      have HF2 := Lib.hid hH2
      clear hH2 h0 HH
      go_enter Tryz.func75, Tryz.ntmps75
      go_wp2_with fail
      refine HA.out.mono ?_
      rintro e w2 ⟨v, rfl, ho, hb⟩
      have HB2 := Lib.hid (HB0.out.trans (hb.mono HB0.out.size))
      have c4 : w2.cell? ⟨w.heap.size, 4, none⟩ = some (.int .i64 m.mi) := (hb.cell (p := ⟨w.heap.size, 4, none⟩) (by simp)).trans (by rw [Lib.cell_of_heap HBl.out]; rfl)
      obtain ⟨a1, c1, rfl⟩ : ∃ a c, v = .slice a 0 c := by obtain ⟨a, c, h, -⟩ := isStrs_own ho; exact ⟨a, c, h⟩
      clear ho hb
      go_wp2_with fail
      go_ret
      exact ⟨by rw [HF2.out]; rfl, HB2.out⟩
    · have e0 : ((m.mi : Int) == 0) = false := by simp [h0]
      rw [decide_eq_false h0] at hH2
      have HF2 := Lib.hid hH2
      clear hH2 h0 HH
      go_enter Tryz.func75, Tryz.ntmps75
      go_wp2_with fail
      refine HA.out.mono ?_
      rintro e w2 ⟨v, rfl, ho, hb⟩
      have HB2 := Lib.hid (HB0.out.trans (hb.mono HB0.out.size))
      have c4 : w2.cell? ⟨w.heap.size, 4, none⟩ = some (.int .i64 m.mi) := (hb.cell (p := ⟨w.heap.size, 4, none⟩) (by simp)).trans (by rw [Lib.cell_of_heap HBl.out]; rfl)
      obtain ⟨a1, c1, rfl⟩ : ∃ a c, v = .slice a 0 c := by obtain ⟨a, c, h, -⟩ := isStrs_own ho; exact ⟨a, c, h⟩
      clear ho hb
      go_wp2_with fail
      go_ret
      exact ⟨by rw [HF2.out]; rfl, HB2.out⟩
  | [p], HH, HA, HPl, _ =>
    have hH2 : F = (decide (p = []) || hostL p) := HH.out
    have hpz : (mkS p).size ≤ 1099511627 := by rw [size_mkS]; exact HPl.out p (by simp)
    have hhost := fun W => host_any (mkS p) W hpz
    rw [bs_mkS] at hhost
    have HHo := Lib.hid hhost
    have hem : ((mkS p).toList == ([] : List UInt8)) = decide (p = []) := by rw [toList_bs, bs_mkS]; cases p <;> rfl
    clear HH hpz HPl hhost
    by_cases h0 : p = []
    · rw [decide_eq_true h0] at hH2 hem
      have HF2 := Lib.hid hH2
      clear hH2 h0
      obtain ⟨tx, htx⟩ : ∃ tx, tx = mkS p := ⟨_, rfl⟩
      have HTX := Lib.hid htx
      rw [← htx] at hem HHo
      clear htx
      go_enter Tryz.func75, Tryz.ntmps75
      go_wp2_with fail
      refine HA.out.mono ?_
      rintro e w2 ⟨v, rfl, ho, hb⟩
      have HB2 := Lib.hid (HB0.out.trans (hb.mono HB0.out.size))
      obtain ⟨a1, c1, rfl, hc⟩ := isStrs_own ho
      obtain ⟨bx, o, rfl, hc0⟩ := hc 0 p rfl
      rw [← HTX.out] at hc0
      have hc0 : w2.cell? ⟨bx, o, none⟩ = some (.string tx) := hc0
      clear ho hb hc
      go_wp2_with fail
      go_ret
      exact ⟨by rw [HF2.out]; rfl, HB2.out⟩
    · rw [decide_eq_false h0] at hH2 hem
      have HF2 := Lib.hid hH2
      clear hH2 h0
      obtain ⟨tx, htx⟩ : ∃ tx, tx = mkS p := ⟨_, rfl⟩
      have HTX := Lib.hid htx
      rw [← htx] at hem HHo
      clear htx
      go_enter Tryz.func75, Tryz.ntmps75
      go_wp2_with fail
      refine HA.out.mono ?_
      rintro e w2 ⟨v, rfl, ho, hb⟩
      have HB2 := Lib.hid (HB0.out.trans (hb.mono HB0.out.size))
      obtain ⟨a1, c1, rfl, hc⟩ := isStrs_own ho
      obtain ⟨bx, o, rfl, hc0⟩ := hc 0 p rfl
      rw [← HTX.out] at hc0
      have hc0 : w2.cell? ⟨bx, o, none⟩ = some (.string tx) := hc0
      clear ho hb hc
      go_wp2_with fail
      refine (HHo.out _).mono ?_
      rintro e w3 ⟨rfl, hb⟩
      have HB3 := Lib.hid (HB2.out.trans (hb.mono HB2.out.size))
      clear hb
      go_wp2_with fail
      go_ret
      exact ⟨by rw [HF2.out]; rfl, HB3.out⟩
  | p :: r :: t, HH, HA, _, _ =>
    have hH2 : F = false := HH.out.trans (by
      rw [if_neg (by simp)]
      have : decide ((p :: r :: t).length = 1) = false := by rw [decide_eq_false_iff_not]; simp
      rw [this]; rfl)
    have HF2 := Lib.hid hH2
    have i0 : ((((p :: r :: t).length : Nat) : Int) == 0) = false := by rw [beq_eq_false_iff_ne]; simp only [List.length_cons]; omega
    have i1 : ((((p :: r :: t).length : Nat) : Int) == 1) = false := by rw [beq_eq_false_iff_ne]; simp only [List.length_cons]; omega
    clear hH2 HH
    generalize (p :: r :: t) = P at *
    go_enter Tryz.func75, Tryz.ntmps75
    go_wp2_with fail
    refine HA.out.mono ?_
    rintro e w2 ⟨v, rfl, ho, hb⟩
    have HB2 := Lib.hid (HB0.out.trans (hb.mono HB0.out.size))
    obtain ⟨a1, c1, rfl⟩ : ∃ a c, v = .slice a P.length c := by obtain ⟨a, c, h, -⟩ := isStrs_own ho; exact ⟨a, c, h⟩
    clear ho hb
    go_wp2_with fail
    go_ret
    exact ⟨by rw [HF2.out]; rfl, HB2.out⟩

/-- a message begins in its place -/
theorem Par.newMsg (h : Par B b s q z lf V w) (m : Msg) (hf : m.f = []) (ht : m.tr = []) :
    Par B b { s with msg := m } q z lf { V with f := .slice none 0 0, t := .slice none 0 0 } (w.setCells b 12 (msgL m (.slice none 0 0) (.slice none 0 0))) ∧ PTn b V { V with f := .slice none 0 0, t := .slice none 0 0 } X w (w.setCells b 12 (msgL m (.slice none 0 0) (.slice none 0 0))) := by
  obtain ⟨n1, n2, n3, n4, n5⟩ := h.neB
  have hk := setCells_other b (msgL m (.slice none 0 0) (.slice none 0 0)) 12 w
  obtain ⟨r1, r2, r3, r4⟩ := setCells_rest b (msgL m (.slice none 0 0) (.slice none 0 0)) 12 w
  have hblk := setCells_blk b 72 (msgL m (.slice none 0 0) (.slice none 0 0)) 12 w _ h.blk (by show 20 ≤ 24; omega)
  have hOwn : ∀ k, OwnP b { V with f := .slice none 0 0, t := .slice none 0 0 } k → OwnP b V k := by
    rintro k (e | e | e | e | e | e)
    · exact .inl e
    · exact .inr (.inl e)
    · exact .inr (.inr (.inl e))
    · cases e
    · cases e
    · exact .inr (.inr (.inr (.inr (.inr e))))
  refine ⟨⟨h.hB, hblk.trans ?_, Meth.heap h.meth fun k e => hk k (fun e2 => n1 (e2 ▸ e)), own_heap h.line fun k e => hk k (fun e2 => n2 (e2 ▸ e)), ?_, ?_, own_heap h.body fun k e => hk k (fun e2 => n5 (e2 ▸ e)), h.lb, (fun k hk => by cases hk), ?_, fun k e => ⟨(h.dlt k e).1, by have := (h.dlt k e).2; omega⟩, fun k e ho => h.apd k e (hOwn k ho)⟩, ⟨r2, r3, r4, by omega, fun k _ hm _ => hk k (fun e => hm (.inl (.inl e))), ?_⟩⟩
  · rfl
  · show World.ownsRow _ _ _ _ _ m.f.length (fcells m.f)
    rw [hf]; exact World.ownsRow_nil _ _ _ _
  · show World.ownsRow _ _ _ _ _ m.tr.length (fcells m.tr)
    rw [ht]; exact World.ownsRow_nil _ _ _ _
  · intro hm
    obtain ⟨bd, d1, d2, d3⟩ := h.dec hm
    exact ⟨bd, d1, d2, d3.same fun k e => hk k (fun e2 => h.apd k ⟨bd, d2, e⟩ (.inl e2))⟩
  · rintro k (e | e)
    · exact .inl (.inl (hOwn k e))
    · exact .inl (.inr e)

/-- how a state ends -/
def stE (s : Pr) : Ending := if s.bad = 0 then .returned (.tuple #[pstV s.mode, .nilIface]) else if s.mode = 7 then .returned (.tuple #[.nilFunc, flV s.bad]) else .panicked malP
theorem stE_fl (s : Pr) (n : Nat) (h : n ≠ 0) : stE (s.fl n) = .returned (.tuple #[.nilFunc, flV n]) := by unfold stE Pr.fl; rw [if_neg (by exact h), if_pos rfl]
theorem Par.flaw (h : Par B b s q z lf V w) (n : Nat) : Par B b (s.fl n) q z lf V w := h.as _ rfl rfl rfl rfl rfl rfl (fun e => by cases e)

set_option maxHeartbeats 4000000 in
set_option maxRecDepth 100000 in
theorem prequest_any (t : ByteArray) (h : Par B b s q z lf V w) (hb : s.bad = 0) (ht : t.size ≤ 1099511627) :
    Calls Tryz.prog 51 #[ptr b, .string t] w fun e w' => e = stE (reqP s (bs t)) ∧ PTo B b (reqP s (bs t)) q z lf V X w w' := by
  have hr := request_any t w ht
  unfold ReqPost at hr
  have H := Lib.hid h
  have HR := Lib.hid hr
  clear h hr
  by_cases h0 : rSt (bs t) = 0
  · have hq : reqP s (bs t) = { s with mode := 3, msg := { m := reqM (bs t), t := reqT (bs t), mi := reqN (bs t) } } := by unfold reqP; rw [if_pos h0]
    have HQ := Lib.hid hq
    have hE : stE (reqP s (bs t)) = .returned (.tuple #[pstV 3, .nilIface]) := by rw [hq]; unfold stE; rw [if_pos hb]
    have HE := Lib.hid hE
    have e0 : ((rSt (bs t) : Int) != 0) = false := by simp [h0]
    clear hq hE h0 hb
    unfold ptr
    go_enter Tryz.func51, Tryz.ntmps51
    go_wp2_with fail
    refine HR.out.mono ?_
    rintro e w1 ⟨rfl, hb1⟩
    have hp := H.out.below hb1
    have HB1 := Lib.hid hb1
    have HT := Lib.hid (there_of_blk hp.blk 12 8 (by show 20 ≤ 24; omega))
    have hn := hp.newMsg (X := X) { m := reqM (bs t), t := reqT (bs t), mi := reqN (bs t) } rfl rfl
    have HN := Lib.hid hn
    clear hb1 hp hn
    generalize hW : w1.setCells b 12 (msgL { m := reqM (bs t), t := reqT (bs t), mi := reqN (bs t) } (.slice none 0 0) (.slice none 0 0)) = W2 at *
    have HW := Lib.hid hW
    clear hW
    go_wp2_with (refine wpList_store_to rfl 32 _ _ rfl b 12 (msgL { m := reqM (bs t), t := reqT (bs t), mi := reqN (bs t) } (.slice none 0 0) (.slice none 0 0)).toArray rfl rfl HT.out (by kernel_rfl) (all_oneCell_toArray (List.all_eq_true.1 (by rfl))) HW.out ?_)
    go_ret2
    exact ⟨by rw [HE.out]; rfl, by rw [HQ.out]; exact ⟨_, HN.out.1.as _ rfl rfl rfl rfl rfl rfl (fun e => by cases e), (PTn.of HB1.out).trans HN.out.2⟩⟩
  · have hq : reqP s (bs t) = s.fl (rSt (bs t)) := by unfold reqP; rw [if_neg h0]
    have HQ := Lib.hid hq
    have hE : stE (reqP s (bs t)) = .returned (.tuple #[.nilFunc, flV (rSt (bs t))]) := by rw [hq, stE_fl _ _ h0]
    have HE := Lib.hid hE
    have e0 : ((rSt (bs t) : Int) != 0) = true := by simp [h0]
    clear hq hE h0 hb
    unfold ptr
    go_enter Tryz.func51, Tryz.ntmps51
    go_wp2_with fail
    refine HR.out.mono ?_
    rintro e w1 ⟨rfl, hb1⟩
    have HB1 := Lib.hid hb1
    clear hb1
    go_wp2_with fail
    go_ret2
    exact ⟨by rw [HE.out]; rfl, by rw [HQ.out]; exact .of (H.out.flaw _) HB1.out⟩
end Tk
end Go.Proofs.YtpcdaaijlgilkaaGreatDoor
namespace Go.Proofs.YtpcdaaijlgilkaaGreatDoor
open Go.RowKit
namespace Tk

set_option maxRecDepth 100000 in
set_option maxHeartbeats 1000000 in
theorem number_any (s : ByteArray) (w : World) (hs : s.size ≤ 1099511627776) :
    Calls Tryz.prog 64 #[.string s] w fun r w' => r = .returned (.tuple #[.int .i64 (numL (bs s)).1, .int .i64 (numL (bs s)).2]) ∧ w = w' := by
  by_cases h0 : s.size = 0
  · have hb : bs s = [] := List.eq_nil_of_length_eq_zero (by rw [length_bs]; exact h0)
    have he : s.toList.isEmpty = true := by rw [toList_bs, hb]; rfl
    have HB := Lib.hid hb
    clear hb h0
    go_enter Tryz.func64, Tryz.ntmps64
    go_wp2_with fail
    go_ret2
    exact ⟨by rw [HB.out]; rfl, rfl⟩
  · have hb : bs s ≠ [] := fun e => h0 (by rw [← length_bs, e]; rfl)
    have he : s.toList.isEmpty = false := by rw [toList_bs]; simpa using hb
    have hnum : numL (bs s) = numGo 0 ((bs s).drop 0) := by unfold numL; rw [if_neg hb]; rfl
    have HN := Lib.hid hnum
    have HL := Lib.hid (length_bs s)
    clear hnum hb h0
    go_enter Tryz.func64, Tryz.ntmps64
    go_wp2_with fail
    go_loop [4, 10, 5] (fun vn vi _ => ∃ (n i : Nat), n ≤ 90071992547409919 ∧ i ≤ s.size ∧ vn = .int .i64 n ∧ vi = .int .i64 i ∧ Hid (numL (bs s) = numGo n ((bs s).drop i))) (fun _ vi _ => s.size - (RowKit.intOf vi).toNat)
    case atStart => exact ⟨0, 0, by omega, by omega, rfl, rfl, HN.out⟩
    case round =>
      obtain ⟨n, i, hn, hi, rfl, rfl, hd⟩ := hrel
      by_cases hlt : i < s.size
      · have hdr := drop_cons (bs s) i (by rw [HL.out]; exact hlt)
        rw [getD_bs s i hlt] at hdr
        have HD := Lib.hid hdr
        have hc0 : 0 ≤ (s[i].toNat : Int) := by omega
        have hc1 : (s[i].toNat : Int) < 256 := by have := s[i].toNat_lt; omega
        clear hdr
        by_cases hlo : (s[i].toNat : Int) < 48
        · have fin : numL (bs s) = (0, 4) := by
            rw [hd.out, HD.out, numGo, if_neg]
            unfold isDig; simp; omega
          have HF := Lib.hid fin
          clear fin
          go_wp2_with fail
          go_ret2
          exact ⟨by rw [HF.out]; rfl, rfl⟩
        · by_cases hhi : (57 : Int) < (s[i].toNat : Int)
          · have fin : numL (bs s) = (0, 4) := by
              rw [hd.out, HD.out, numGo, if_neg]
              unfold isDig; simp; omega
            have HF := Lib.hid fin
            clear fin
            go_wp2_with fail
            go_ret2
            exact ⟨by rw [HF.out]; rfl, rfl⟩
          · have hdig : isDig s[i] = true := by unfold isDig; simp; omega
            have hgo : numL (bs s) = numGo (if n ≤ maxN then n * 10 + (s[i].toNat - 48) else n) ((bs s).drop (i + 1)) := by
              rw [hd.out, HD.out, numGo, if_pos hdig]
            by_cases hmx : n ≤ 9007199254740991
            · rw [if_pos (show n ≤ maxN from hmx)] at hgo
              have HG := Lib.hid hgo
              clear hgo hdig
              go_wp2_with fail
              refine ⟨⟨n * 10 + (s[i].toNat - 48), i + 1, by omega, by omega, ?_, by go_num, HG⟩, by simp [RowKit.intOf]; omega⟩
              congr 1
              omega
            · rw [if_neg (show ¬ n ≤ maxN from hmx)] at hgo
              have HG := Lib.hid hgo
              clear hgo hdig
              go_wp2_with fail
              exact ⟨⟨n, i + 1, by omega, by omega, rfl, by go_num, HG⟩, by simp [RowKit.intOf]; omega⟩
      · have hnil : (bs s).drop i = [] := List.drop_eq_nil_of_le (by rw [HL.out]; omega)
        have fin := hd.out
        rw [hnil, numGo] at fin
        have HF := Lib.hid fin
        clear fin hnil
        go_wp2_with fail
        · have hmx : (9007199254740991 : Int) < n := by assumption
          go_ret2
          exact ⟨by rw [HF.out, if_pos (show maxN < n by unfold maxN; omega)]; rfl, rfl⟩
        · have hmx : (n : Int) ≤ 9007199254740991 := by assumption
          go_ret2
          exact ⟨by rw [HF.out, if_neg (show ¬ maxN < n by unfold maxN; omega)]; rfl, rfl⟩
end Tk
end Go.Proofs.YtpcdaaijlgilkaaGreatDoor
namespace Go.Proofs.YtpcdaaijlgilkaaGreatDoor
open Go.RowKit
namespace Tk

theorem results_tmp3' {fn : Func} {t u v : Tmp} (h : fn.results = #[.tmp t, .tmp u, .tmp v]) (tmps : Array Value) (P : Program) (w : World) :
    (results fn tmps).run P w = .ok (.tuple #[tmps.getD t undef, tmps.getD u undef, tmps.getD v undef]) w := by
  simp [results, h]
theorem retB3 {a b : Bool} (h : a = b) : Ending.returned (.bool a) = .returned (.bool b) := by rw [h]
set_option maxHeartbeats 2000000 in
theorem bare_any (m : ByteArray) (s : Int) (w : World) :
    Calls Tryz.prog 112 #[.string m, .int .i64 s] w fun e w' => e = .returned (.bool (bareB (bs m) s)) ∧ w = w' := by
  by_cases hH : bs m = [72, 69, 65, 68]
  · have x1 : (m.toList == [72, 69, 65, 68]) = true := by rw [toList_bs, hH]; rfl
    have HF : Hid (bareB (bs m) s = true) := by show bareB _ _ = true; unfold bareB; simp [hH]
    clear hH
    go_enter Tryz.func112, Tryz.ntmps112
    go_wp2_with fail
    go_ret
    exact ⟨by rw [HF.out]; rfl, rfl⟩
  · have x1 : (m.toList == [72, 69, 65, 68]) = false := by rw [toList_bs]; exact beq_eq_false_iff_ne.2 hH
    have hB : bareB (bs m) s = ((decide (100 ≤ s) && decide (s ≤ 199)) || decide (s = 204) || decide (s = 304) || (decide (bs m = [67, 79, 78, 78, 69, 67, 84]) && decide (200 ≤ s) && decide (s ≤ 299))) := by unfold bareB; simp [hH]
    have hC : bs m = [67, 79, 78, 78, 69, 67, 84] ∧ (m.toList == [67, 79, 78, 78, 69, 67, 84]) = true ∨ bs m ≠ [67, 79, 78, 78, 69, 67, 84] ∧ (m.toList == [67, 79, 78, 78, 69, 67, 84]) = false := by
      by_cases hc : bs m = [67, 79, 78, 78, 69, 67, 84]
      · exact .inl ⟨hc, by rw [toList_bs, hc]; rfl⟩
      · exact .inr ⟨hc, by rw [toList_bs]; exact beq_eq_false_iff_ne.2 hc⟩
    clear hH
    have e204 : s = 204 ∧ (s == 204) = true ∨ s ≠ 204 ∧ (s == 204) = false := by
      by_cases h : s = 204
      · exact .inl ⟨h, by rw [h]; rfl⟩
      · exact .inr ⟨h, beq_eq_false_iff_ne.2 h⟩
    have e304 : s = 304 ∧ (s == 304) = true ∨ s ≠ 304 ∧ (s == 304) = false := by
      by_cases h : s = 304
      · exact .inl ⟨h, by rw [h]; rfl⟩
      · exact .inr ⟨h, beq_eq_false_iff_ne.2 h⟩
    rcases e204 with ⟨h2, b2⟩ | ⟨h2, b2⟩ <;> rcases e304 with ⟨h3, b3⟩ | ⟨h3, b3⟩ <;> rcases hC with ⟨hc, bc⟩ | ⟨hc, bc⟩ <;> by_cases k0 : 100 ≤ s <;> by_cases k1 : s ≤ 199 <;> by_cases k2 : 200 ≤ s <;> by_cases k3 : s ≤ 299
    all_goals
      first
      | omega
      | (have HF := Lib.hid hB
         have H2 := Lib.hid h2
         have H3 := Lib.hid h3
         have HC := Lib.hid hc
         clear hB h2 h3 hc
         go_enter Tryz.func112, Tryz.ntmps112
         go_wp2_with fail
         go_ret
         have h2 := H2.out
         have h3 := H3.out
         have hc := HC.out
         exact ⟨retB3 (by rw [HF.out]; simp [h2, h3, hc] <;> omega), rfl⟩)

set_option maxHeartbeats 1000000 in
theorem has_any (v : Value) (l : List (Bs × Bs)) (name : Bs) (w : World) (hs : IsFlds w v l) (hz : sumF l ≤ 1000000) (hn : name.length ≤ 1099511627776) (hl : l.length ≤ 1048576) :
    Calls Tryz.prog 151 #[v, .string (mkS name)] w fun e w' => e = .returned (.bool (hasF l name)) ∧ Below w.heap.size w w' := by
  have HG := Lib.hid (fget_any v l name w hs (by omega) hn hl)
  have hh : hasF l name = decide (0 < (allF l name).length) := rfl
  rw [← hh] at HG
  obtain ⟨a, cap, rfl⟩ : ∃ a cap, v = .slice a l.length cap := by obtain ⟨a, c, h, -⟩ := hs; exact ⟨a, c, h⟩
  clear hs hz hh
  go_enter Tryz.func151, Tryz.ntmps151
  go_wp2_with fail
  refine HG.out.mono ?_
  rintro e w1 ⟨rfl, hb⟩
  have HB := Lib.hid hb
  clear hb
  go_wp2_with fail
  go_ret
  exact ⟨rfl, HB.out⟩

end Tk
end Go.Proofs.YtpcdaaijlgilkaaGreatDoor
namespace Go.Proofs.YtpcdaaijlgilkaaGreatDoor
open Go.RowKit
namespace Tk

/-- a block of one cell of the call's own -/
def One (w : World) (g : Nat) (T : TypeId) (a : Value) : Prop := w.heap[g]? = some (.cells #[a] T (0, 0))
theorem One.new (w : World) (T : TypeId) (a : Value) : One (w.alloc (.cells #[a] T)) w.heap.size T a := heap_alloc_last w _
theorem One.lt {w : World} {g : Nat} {T : TypeId} {a : Value} (h : One w g T a) : g < w.heap.size := (Array.getElem?_eq_some_iff.1 h).1
theorem One.c0 {w : World} {g : Nat} {T : TypeId} {a : Value} (h : One w g T a) : w.cell? ⟨g, 0, none⟩ = some a := by rw [Lib.cell_of_heap h]; rfl
theorem One.f0 {w : World} {g : Nat} {T : TypeId} {a : Value} (h : One w g T a) : w.frozen? ⟨g, 0, none⟩ = false := Lib.frozen_of_heap h 0

def LenPost (l : List (Bs × Bs)) (w : World) (e : Ending) (w' : World) : Prop := e = .returned (.tuple #[.int .i64 (lenN l : Nat), .bool (hasF l nmCL), .int .i64 (lenS l : Nat)]) ∧ Below w.heap.size w w'

theorem len_ret (l : List (Bs × Bs)) (n : Nat) (b : Bool) (s : Nat) (h1 : lenN l = n) (h2 : hasF l nmCL = b) (h3 : lenS l = s) : Ending.returned (.tuple #[.int .i64 (n : Int), .bool b, .int .i64 (s : Int)]) = .returned (.tuple #[.int .i64 (lenN l : Nat), .bool (hasF l nmCL), .int .i64 (lenS l : Nat)]) := by rw [h1, h2, h3]

set_option maxHeartbeats 8000000 in
set_option maxRecDepth 100000 in
theorem length_any (v : Value) (l : List (Bs × Bs)) (w : World) (hs : IsFlds w v l) (hz : sumF l ≤ 1000000) (hl : l.length ≤ 1048576) :
    Calls Tryz.prog 139 #[v] w (LenPost l w) := by
  have HH : Hid (∀ W, Below w.heap.size w W → Calls Tryz.prog 151 #[v, .string ⟨#[67, 111, 110, 116, 101, 110, 116, 45, 76, 101, 110, 103, 116, 104]⟩] W fun e w' => e = .returned (.bool (hasF l nmCL)) ∧ Below W.heap.size W w') := fun W hb => has_any v l nmCL W (isFlds_below hs hb) hz (by decide) hl
  have HLs : Hid (∀ W, Below w.heap.size w W → Calls Tryz.prog 152 #[v, .string ⟨#[67, 111, 110, 116, 101, 110, 116, 45, 76, 101, 110, 103, 116, 104]⟩] W (ListPost W.heap.size (listF l nmCL) W)) := fun W hb => flist_any v l nmCL W (isFlds_below hs hb) hz (by decide) hl
  unfold ListPost at HLs
  have HBad := Lib.hid (len_bad l)
  have HGood := Lib.hid (len_good l)
  have HEmp := Lib.hid (len_empty l)
  have HNone := Lib.hid (lenS_none l)
  have HPc := Lib.hid (fun p hp => Nat.le_trans (listF_piece nmCL l p hp) hz)
  have HHas := Lib.hid (list_has l nmCL)
  have hln := listF_len nmCL l
  have hlp : (listF l nmCL).length ≤ 1000000 := by omega
  have HRet := Lib.hid (len_ret l)
  unfold LenPost
  obtain ⟨a, cap, rfl⟩ : ∃ a cap, v = .slice a l.length cap := by obtain ⟨a, c, h, -⟩ := hs; exact ⟨a, c, h⟩
  clear hs hz hln
  generalize listF l nmCL = P at *
  go_enter Tryz.func139, Tryz.ntmps139
  go_wp2_with fail
  refine (HH.out _ (Below.refl _ _)).mono ?_
  rintro e w1 ⟨rfl, hb⟩
  have HB1 := Lib.hid hb
  clear hb
  go_wp2_with fail
  refine (HLs.out _ HB1.out).mono ?_
  rintro e w2 ⟨v2, rfl, ho, hb⟩
  have HB2 := Lib.hid (HB1.out.trans (hb.mono HB1.out.size))
  have HS := Lib.hid (isStrs_own ho)
  have HLt := Lib.hid (fun k e => (ho.lt k e).2)
  obtain ⟨a1, c1, rfl⟩ : ∃ a c, v2 = .slice a P.length c := by obtain ⟨a, c, h, -⟩ := isStrs_own ho; exact ⟨a, c, h⟩
  clear ho hb
  go_wp2_with fail
  go_loopw [4, 5, 15] (fun vs vf vi wr => ∃ i : Nat, i ≤ P.length ∧ vs = .int .i64 0 ∧ vi = .int .i64 i ∧ Hid (Below w2.heap.size w2 wr) ∧ ((i = 0 ∧ vf = .pointer none) ∨ (0 < i ∧ ∃ b, vf = .pointer (some ⟨b, 0, none⟩) ∧ Hid (b < wr.heap.size) ∧ Hid (wr.cell? ⟨b, 0, none⟩ = some (.int .i64 (firstN P : Nat))))) ∧ Hid (∀ p ∈ P.take i, isNum (firstN P) p = true)) (fun _ _ vi _ => P.length - (RowKit.intOf vi).toNat)
  case atStart => exact ⟨0, Nat.zero_le _, rfl, rfl, Below.refl _ _, .inl ⟨rfl, rfl⟩, fun p hp => by simp at hp⟩
  case round =>
    obtain ⟨i, hi, rfl, rfl, HB, hf, HA⟩ := hrel
    rename World => W
    by_cases hlt : i < P.length
    · obtain ⟨a', c', e', hc⟩ := isStrs_later HS.out HB.out HLt.out
      injection e' with e1 _ e2
      subst e1 e2
      obtain ⟨bx, o, rfl, hc⟩ := hc i (P.getD i []) (by simp [List.getD, hlt])
      have hmem : P.getD i [] ∈ P := by simp [List.getD, hlt]
      have hm := HPc.out (P.getD i []) hmem
      have htk : P.take (i + 1) = P.take i ++ [P.getD i []] := by rw [List.take_succ_eq_append_getElem hlt]; simp [List.getD, hlt]
      have hfirst : i = 0 → firstN P = (numL (P.getD i [])).1 := by
        intro e; subst e
        unfold firstN
        cases P with
        | nil => simp at hlt
        | cons p t => rfl
      have HBd := Lib.hid (HBad.out (P.getD i []) hmem)
      have HTK := Lib.hid htk
      have HFi := Lib.hid hfirst
      have hxl := numL_le (P.getD i [])
      clear htk hmem hfirst
      generalize P.getD i [] = x at *
      have hxz := size_mkS x
      have hnum := fun W : World => number_any (mkS x) W (by omega)
      rw [bs_mkS] at hnum
      have HNum := Lib.hid hnum
      have hisn : isNum (firstN P) x = (decide ((numL x).2 = 0) && decide ((numL x).1 = firstN P)) := rfl
      have HIs := Lib.hid hisn
      have g0 : (0 : Int) ≤ (i : Int) := by omega
      have g1 : (i : Int) < (P.length : Int) := by omega
      clear hnum hxz hisn
      generalize numL x = q at *
      obtain ⟨n, k⟩ := q
      simp only at hxl HNum HIs HFi
      have HN0 := Lib.hid (One.new W 2 (.int .i64 (n : Int)))
      have HBa := Lib.hid (HB.out.alloc HB.out.size (Obj.cells #[.int .i64 (n : Int)] 2))
      have hal : ∀ (b : Nat) (u : Value), b < W.heap.size → W.cell? ⟨b, 0, none⟩ = some u → (W.alloc (Obj.cells #[.int .i64 (n : Int)] 2)).cell? ⟨b, 0, none⟩ = some u := fun b u hb hu => by
        rw [World.cell?_alloc_lt _ _ _ (show (⟨b, 0, none⟩ : Addr).block < W.heap.size from hb)]; exact hu
      have HAl := Lib.hid hal
      have hgl : W.heap.size < (W.alloc (Obj.cells #[.int .i64 (n : Int)] 2)).heap.size := by simp
      clear hal
      by_cases hk : k = 0
      · have ek : ((k : Int) != 0) = false := by rw [hk]; rfl
        rcases hf with ⟨hi0, rfl⟩ | ⟨hip, b, rfl, HLo, HOne⟩
        · have hF : firstN P = n := HFi.out hi0
          have hyes : isNum (firstN P) x = true := by rw [HIs.out, hF, hk]; simp
          have HA2 : Hid (∀ p ∈ P.take (i + 1), isNum (firstN P) p = true) := by
            intro p hp
            rw [HTK.out, List.mem_append, List.mem_singleton] at hp
            rcases hp with hp | rfl
            · exact HA.out p hp
            · exact hyes
          have HF := Lib.hid hF
          clear hk hyes hF hi0
          go_wp2_with fail
          refine (HNum.out _).mono ?_
          rintro e w' ⟨rfl, rfl⟩
          have q0 := HN0.out.c0
          go_wp2_with fail
          generalize W.alloc (Obj.cells #[.int .i64 (n : Int)] 2) = W5 at *
          generalize W.heap.size = g at *
          go_quiet (fail)
          go_wp2_with fail
          refine ⟨⟨i + 1, hlt, rfl, by go_num, below_some_draws HBa.out _, .inr ⟨by omega, g, rfl, hgl, ?_⟩, HA2⟩, by simp [RowKit.intOf]; omega⟩
          show _ = _
          rw [HF.out]; exact q0
        · by_cases hn : n = firstN P
          · have hyes : isNum (firstN P) x = true := by rw [HIs.out, hn, hk]; simp
            have HA2 : Hid (∀ p ∈ P.take (i + 1), isNum (firstN P) p = true) := by
              intro p hp
              rw [HTK.out, List.mem_append, List.mem_singleton] at hp
              rcases hp with hp | rfl
              · exact HA.out p hp
              · exact hyes
            have en : ((n : Int) != (firstN P : Int)) = false := by rw [hn]; simp
            have qb := HAl.out b _ HLo.out HOne.out
            have hbl : Hid (b < (W.alloc (Obj.cells #[.int .i64 (n : Int)] 2)).heap.size) := Nat.lt_trans HLo.out hgl
            clear hk hyes hn
            generalize firstN P = F at *
            go_wp2_with fail
            refine (HNum.out _).mono ?_
            rintro e w' ⟨rfl, rfl⟩
            have q0 := HN0.out.c0
            go_wp2_with fail
            generalize W.alloc (Obj.cells #[.int .i64 (n : Int)] 2) = W5 at *
            generalize W.heap.size = g at *
            go_quiet (fail)
            go_wp2_with fail
            exact ⟨⟨i + 1, hlt, rfl, by go_num, below_some_draws HBa.out _, .inr ⟨by omega, b, rfl, hbl, qb⟩, HA2⟩, by simp [RowKit.intOf]; omega⟩
          · have hno : isNum (firstN P) x = false := by rw [HIs.out]; simp [hn]
            obtain ⟨b1, b2, b3⟩ := HBd.out hno
            have HR := Lib.hid (HRet.out 0 _ 400 b1 rfl b3)
            have HBf := Lib.hid (HB2.out.trans (HBa.out.mono HB2.out.size))
            have en : ((n : Int) != (firstN P : Int)) = true := by rw [bne_iff_ne]; omega
            have qb := HAl.out b _ HLo.out HOne.out
            clear hk hn hno b1 b2 b3
            generalize firstN P = F at *
            go_wp2_with fail
            refine (HNum.out _).mono ?_
            rintro e w' ⟨rfl, rfl⟩
            have q0 := HN0.out.c0
            go_wp2_with fail
            generalize W.alloc (Obj.cells #[.int .i64 (n : Int)] 2) = W5 at *
            generalize W.heap.size = g at *
            go_quiet (fail)
            go_wp2_with fail
            try simp only [Exit.inBlock, Exit.then]
            refine bodyPost_ret (results_tmp3' rfl _ _ _) rfl ?_
            exact ⟨HR.out, below_some_draws HBf.out _⟩
      · have ek : ((k : Int) != 0) = true := by rw [bne_iff_ne]; omega
        have hno : isNum (firstN P) x = false := by rw [HIs.out]; simp [hk]
        obtain ⟨b1, b2, b3⟩ := HBd.out hno
        have HR := Lib.hid (HRet.out 0 _ 400 b1 rfl b3)
        have HBf := Lib.hid (HB2.out.trans (HBa.out.mono HB2.out.size))
        clear hk hno b1 b2 b3
        rcases hf with ⟨hi0, rfl⟩ | ⟨hip, b, rfl, HLo, HOne⟩
        · clear hi0
          go_wp2_with fail
          refine (HNum.out _).mono ?_
          rintro e w' ⟨rfl, rfl⟩
          have q0 := HN0.out.c0
          go_wp2_with fail
          generalize W.alloc (Obj.cells #[.int .i64 (n : Int)] 2) = W5 at *
          generalize W.heap.size = g at *
          go_quiet (fail)
          go_wp2_with fail
          try simp only [Exit.inBlock, Exit.then]
          refine bodyPost_ret (results_tmp3' rfl _ _ _) rfl ?_
          exact ⟨HR.out, below_some_draws HBf.out _⟩
        · have qb := HAl.out b _ HLo.out HOne.out
          generalize firstN P = F at *
          go_wp2_with fail
          refine (HNum.out _).mono ?_
          rintro e w' ⟨rfl, rfl⟩
          have q0 := HN0.out.c0
          go_wp2_with fail
          generalize W.alloc (Obj.cells #[.int .i64 (n : Int)] 2) = W5 at *
          generalize W.heap.size = g at *
          go_quiet (fail)
          go_wp2_with fail
          try simp only [Exit.inBlock, Exit.then]
          refine bodyPost_ret (results_tmp3' rfl _ _ _) rfl ?_
          exact ⟨HR.out, below_some_draws HBf.out _⟩
    · have hil : P.take i = P := List.take_of_length_le (by omega)
      have hipl : i = P.length := by omega
      rw [hil] at HA
      have HBf := Lib.hid (HB2.out.trans (HB.out.mono HB2.out.size))
      rcases hf with ⟨hi0, rfl⟩ | ⟨hip, b, rfl, HLo, HOne⟩
      · have hP : P = [] := List.eq_nil_of_length_eq_zero (by omega)
        cases hh : hasF l nmCL
        · obtain ⟨b1, b2⟩ := HNone.out hh
          have HR := Lib.hid (HRet.out 0 false 0 b2 hh b1)
          rw [hh] at HR
          clear hil hipl hP hi0 b1 b2
          go_wp2_with fail
          try simp only [Exit.inBlock, Exit.then]
          refine bodyPost_ret (results_tmp3' rfl _ _ _) rfl ?_
          exact ⟨by rw [hh]; exact HR.out, HBf.out⟩
        · obtain ⟨b1, b2⟩ := HEmp.out hP hh
          have HR := Lib.hid (HRet.out 0 true 400 b1 hh b2)
          rw [hh] at HR
          clear hil hipl hP hi0 b1 b2
          go_wp2_with fail
          try simp only [Exit.inBlock, Exit.then]
          refine bodyPost_ret (results_tmp3' rfl _ _ _) rfl ?_
          exact ⟨by rw [hh]; exact HR.out, HBf.out⟩
      · have hP : P ≠ [] := fun e => by rw [e] at hipl; simp at hipl; omega
        obtain ⟨b1, b2, b3⟩ := HGood.out hP HA.out
        have HR := Lib.hid (HRet.out _ _ 0 b1 rfl b3)
        have q0 := HOne.out
        have hFl : firstN P ≤ 9007199254740991 := numL_le _
        clear hil hipl hP b1 b2 b3
        generalize firstN P = F at *
        go_wp2_with fail
        try simp only [Exit.inBlock, Exit.then]
        refine bodyPost_ret (results_tmp3' rfl _ _ _) rfl ?_
        exact ⟨HR.out, HBf.out⟩
end Tk
end Go.Proofs.YtpcdaaijlgilkaaGreatDoor
