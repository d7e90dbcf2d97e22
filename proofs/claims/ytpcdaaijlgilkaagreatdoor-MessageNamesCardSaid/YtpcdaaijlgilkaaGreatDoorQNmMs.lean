/- The statement's own status and response; what the chapter's texts come to (plain facts). -/
import Derived.Test.YtpcdaaijlgilkaaGreatDoorQMsgFI
import Derived.Test.YtpcdaaijlgilkaaGreatDoorQK
namespace Go.Proofs.YtpcdaaijlgilkaaGreatDoor
open Go.RowKit
namespace Tk

set_option maxHeartbeats 4000000 in
set_option maxRecDepth 100000 in
theorem stat_any (L H C M : Int) (l h c m : Nat) (t : ByteArray) (st : Nat) (w : World) (hl : max L 0 = l) (hh : max H 0 = h) (hc : max C 0 = c) (hm : max M 0 = m) (hlim : LimP (newP l h c m false)) (ht : t.size ≤ 100000) (hv : ErrV w.heap.size w) (hs : allS (newP l h c m false) (bs t) = st) :
    Calls Tryz.prog 12 #[.agg #[.int .i64 L, .int .i64 H, .int .i64 C, .int .i64 M], .string t] w fun e w' => e = .returned (.int .i64 st) ∧ Below w.heap.size w w' := by
  have hb0 : Below w.heap.size w (w.alloc (.cells #[.int .i64 L, .int .i64 H, .int .i64 C, .int .i64 M] 24)) := (Below.refl _ _).alloc (Nat.le_refl _) _
  have HA := Lib.hid (pall_any L H C M l h c m t _ hl hh hc hm hlim ht (hv.later hb0).top)
  unfold AllPost at HA
  rw [hs] at HA
  have HB0 := Lib.hid hb0
  clear hb0 hl hh hc hm hlim ht hv hs
  go_enter Tryz.func12, Tryz.ntmps12
  go_wp2_with fail
  refine HA.out.mono ?_
  rintro e w1 ⟨v, Vs, rfl, hmap, hms, hbe⟩
  obtain ⟨a, k, rfl⟩ := hms.val
  have HB := Lib.hid (HB0.out.trans (hbe.mono HB0.out.size))
  clear hmap hms hbe
  go_wp2_with fail
  go_ret
  exact ⟨rfl, HB.out⟩

def MsgOut (s : Pr) (w : World) (e : Ending) (w' : World) : Prop := ∃ (a1 : Option Addr) (n1 c1 : Nat) (a2 : Option Addr) (n2 c2 : Nat), e = .returned (.tuple #[.agg #[.string (mkS s.msg.m), .string (mkS s.msg.t), .int .i64 s.msg.st, .string (mkS s.msg.r), .int .i64 s.msg.mi, .slice a1 n1 c1, .string (mkS s.msg.body), .slice a2 n2 c2], .int .i64 0, .bool true]) ∧ Below w.heap.size w w'
set_option maxHeartbeats 16000000 in
set_option maxRecDepth 100000 in
theorem resp_any (m t : ByteArray) (s2 : Pr) (w : World) (hv : ErrV w.heap.size w) (hm : rlB (bs m) [47] 1 = true) (hmz : m.size ≤ 1000) (htz : t.size ≤ 10000) (hs : (feedP (q0 [bs m]) (bs t)).2 = s2) (hw : waitP s2 = true) (hst : 200 ≤ s2.msg.st) :
    Calls Tryz.prog 13 #[.string m, .string t] w (MsgOut s2 w) := by
  have hbad : s2.bad = 0 := by unfold waitP at hw; simp at hw; exact hw.2
  have HV := Lib.hid hv
  have HR := Lib.hid (⟨hm, hmz, htz, hs, hw, hst, hbad⟩ : _ ∧ _ ∧ _ ∧ _ ∧ _ ∧ _ ∧ _)
  obtain ⟨Z, hZ⟩ : ∃ Z, Z = w.alloc (.cells nxZ.toArray 32) := ⟨_, rfl⟩
  have hZb : Below w.heap.size w Z := by rw [hZ]; exact (Below.refl _ _).alloc (Nat.le_refl _) _
  have HZb := Lib.hid hZb
  have HZk := Lib.hid (show Z.heap[w.heap.size]? = some (.cells nxZ.toArray 32 (0, 0)) by rw [hZ]; exact heap_alloc_last w _)
  clear hv hm hmz htz hs hw hst hbad hZb
  unfold MsgOut
  go_enter Tryz.func13, Tryz.ntmps13
  go_wp2_with fail
  rw [show w.alloc (.cells #[.string ⟨#[]⟩, .string ⟨#[]⟩, .int .i64 0, .string ⟨#[]⟩, .int .i64 0, .slice none 0 0, .string ⟨#[]⟩, .slice none 0 0] 32) = Z from hZ.symm]
  clear hZ
  refine (roomy_any _).mono ?_
  rintro e w1 ⟨rfl, hb⟩
  have HB1 := Lib.hid (HZb.out.trans (hb.mono HZb.out.size))
  have HK1 := Lib.hid (show w1.heap[w.heap.size]? = some (.cells nxZ.toArray 32 (0, 0)) from (hb.block _ (Array.getElem?_eq_some_iff.1 HZk.out).1).trans HZk.out)
  have HLt := Lib.hid (Array.getElem?_eq_some_iff.1 HK1.out).1
  have HV1 := Lib.hid ((HV.out.later HB1.out).top)
  clear hb
  go_wp2_with fail
  refine (presponses_any 200 1000 30 1000 200 1000 30 1000 w1.heap.size w1 (Nat.le_refl _) rfl rfl rfl rfl).mono ?_
  rintro e w3 ⟨b, V, rfl, hbb, ⟨q, hq7, hqm, hp⟩, hvm, hbe⟩
  obtain rfl : q = 2 := hqm rfl
  have HP3 := Lib.hid (show Par w1.heap.size b (q0 []) 2 0 0 V w3 from hp)
  have HO3 := Lib.hid (show w3.ownsRow w1.heap.size 9 1 V.m 0 (strs []) by rw [hvm]; exact World.ownsRow_nil _ _ _ _)
  have HB3 := Lib.hid (show Below w1.heap.size w1 w3 from hbe)
  clear hbb hq7 hqm hp hvm hbe
  have HEx := Lib.hid (pexpect_any m HP3.out HO3.out rfl (by decide) (by have := HR.out.2.1; omega) HR.out.1)
  unfold ptr at *
  go_wp2_with fail
  refine HEx.out.mono ?_
  rintro e w4 ⟨rfl, v', hp4, ho4, hb4⟩
  have HB4 := Lib.hid (HB3.out.trans hb4)
  have hsy : Sync w1.heap.size b (q0 [bs m]) { V with m := v' } w4 := ⟨2, by omega, fun _ => rfl, hp4⟩
  have HSy := Lib.hid hsy
  have hfd := pfeedG_any t hsy (q0_ok _) (by have := HR.out.2.2.1; show 0 + t.size ≤ 100000; omega) (HV1.out.later HB4.out)
  rw [HR.out.2.2.2.1, HR.out.2.2.2.2.2.2] at hfd
  have HFd := Lib.hid hfd
  clear hp4 ho4 hb4 hsy hfd HEx HP3 HO3 HB3
  unfold ptr at HFd
  generalize (feedP (q0 [bs m]) (bs t)).1 = n at *
  go_wp2_with fail
  refine HFd.out.mono ?_
  rintro e w5 ⟨rfl, V5, hs5, ht5⟩
  have HB5 := Lib.hid (HB4.out.trans (HSy.out.toBelow ht5))
  have hlm := feedP_lim (bs t) (q0 [bs m])
  rw [HR.out.2.2.2.1] at hlm
  have HNx := Lib.hid (pnextL_any hs5 hlm.2.2.2.2.1 hlm.2.2.2.2.2 HR.out.2.2.2.2.2.1 HR.out.2.2.2.2.1)
  obtain ⟨q5, hp5⟩ := hs5.par
  obtain ⟨af, cf, hvf, -⟩ := isFlds_own hp5.flds
  obtain ⟨at_, ct, hvt, -⟩ := isFlds_own hp5.trl
  have hms : (msgL s2.msg V5.f V5.t).toArray = #[.string (mkS s2.msg.m), .string (mkS s2.msg.t), .int .i64 s2.msg.st, .string (mkS s2.msg.r), .int .i64 s2.msg.mi, .slice af s2.msg.f.length cf, .string (mkS s2.msg.body), .slice at_ s2.msg.tr.length ct] := by unfold msgL; rw [hvf, hvt]
  rw [hms] at HNx
  have HBn := Lib.hid (fun (W' : World) (hn : NxPost w1.heap.size b s2 V5 w5 W') => show Below w1.heap.size w1 W' from by
    obtain ⟨V', _, t', _⟩ := hn
    exact HB5.out.trans (t'.toBelow hp5 (fun _ e => e.elim)))
  clear hs5 ht5 q5 hp5 hvf hvt hms HFd HSy hlm
  generalize s2.msg.f.length = n1 at *
  generalize s2.msg.tr.length = n2 at *
  unfold ptr at HNx
  go_wp2_with fail
  refine HNx.out.mono ?_
  rintro e w6 ⟨rfl, hn6⟩
  have HB6 := Lib.hid (HBn.out w6 hn6)
  clear hn6 HNx HBn HB5 HB4
  have hblk : (w6.alloc (.cells #[.string (mkS s2.msg.m), .string (mkS s2.msg.t), .int .i64 s2.msg.st, .string (mkS s2.msg.r), .int .i64 s2.msg.mi, .slice af n1 cf, .string (mkS s2.msg.body), .slice at_ n2 ct] 32)).heap[w6.heap.size]? = some (.cells #[.string (mkS s2.msg.m), .string (mkS s2.msg.t), .int .i64 s2.msg.st, .string (mkS s2.msg.r), .int .i64 s2.msg.mi, .slice af n1 cf, .string (mkS s2.msg.body), .slice at_ n2 ct] 32 (0, 0)) := heap_alloc_last w6 _
  have hAl : Below w1.heap.size w1 (w6.alloc (.cells #[.string (mkS s2.msg.m), .string (mkS s2.msg.t), .int .i64 s2.msg.st, .string (mkS s2.msg.r), .int .i64 s2.msg.mi, .slice af n1 cf, .string (mkS s2.msg.body), .slice at_ n2 ct] 32)) := HB6.out.alloc HB6.out.size _
  have hblk0 : (w6.alloc (.cells #[.string (mkS s2.msg.m), .string (mkS s2.msg.t), .int .i64 s2.msg.st, .string (mkS s2.msg.r), .int .i64 s2.msg.mi, .slice af n1 cf, .string (mkS s2.msg.body), .slice at_ n2 ct] 32)).heap[w.heap.size]? = some (.cells nxZ.toArray 32 (0, 0)) := (hAl.block _ HLt.out).trans HK1.out
  have HAl := Lib.hid hAl
  clear hAl
  go_upto_region 5 with (fail)
  generalize w6.alloc (.cells #[.string (mkS s2.msg.m), .string (mkS s2.msg.t), .int .i64 s2.msg.st, .string (mkS s2.msg.r), .int .i64 s2.msg.mi, .slice af n1 cf, .string (mkS s2.msg.body), .slice at_ n2 ct] 32) = w2 at *
  generalize w6.heap.size = gq at *
  have d0 : w2.cell? ⟨gq, 0, none⟩ = some (.string (mkS s2.msg.m)) := by rw [Lib.cell_of_heap hblk]; rfl
  have d1 : w2.cell? ⟨gq, 1, none⟩ = some (.string (mkS s2.msg.t)) := by rw [Lib.cell_of_heap hblk]; rfl
  have d2 : w2.cell? ⟨gq, 2, none⟩ = some (.int .i64 s2.msg.st) := by rw [Lib.cell_of_heap hblk]; rfl
  have d3 : w2.cell? ⟨gq, 3, none⟩ = some (.string (mkS s2.msg.r)) := by rw [Lib.cell_of_heap hblk]; rfl
  have d4 : w2.cell? ⟨gq, 4, none⟩ = some (.int .i64 s2.msg.mi) := by rw [Lib.cell_of_heap hblk]; rfl
  have d5 : w2.cell? ⟨gq, 5, none⟩ = some (.slice af n1 cf) := by rw [Lib.cell_of_heap hblk]; rfl
  have d6 : w2.cell? ⟨gq, 6, none⟩ = some (.string (mkS s2.msg.body)) := by rw [Lib.cell_of_heap hblk]; rfl
  have d7 : w2.cell? ⟨gq, 7, none⟩ = some (.slice at_ n2 ct) := by rw [Lib.cell_of_heap hblk]; rfl
  have g0 : w2.cell? ⟨w.heap.size, 0, none⟩ = some (.string ⟨#[]⟩) := by rw [Lib.cell_of_heap hblk0]; rfl
  have g1 : w2.cell? ⟨w.heap.size, 1, none⟩ = some (.string ⟨#[]⟩) := by rw [Lib.cell_of_heap hblk0]; rfl
  have g2 : w2.cell? ⟨w.heap.size, 2, none⟩ = some (.int .i64 0) := by rw [Lib.cell_of_heap hblk0]; rfl
  have g3 : w2.cell? ⟨w.heap.size, 3, none⟩ = some (.string ⟨#[]⟩) := by rw [Lib.cell_of_heap hblk0]; rfl
  have g4 : w2.cell? ⟨w.heap.size, 4, none⟩ = some (.int .i64 0) := by rw [Lib.cell_of_heap hblk0]; rfl
  have g5 : w2.cell? ⟨w.heap.size, 5, none⟩ = some (.slice none 0 0) := by rw [Lib.cell_of_heap hblk0]; rfl
  have g6 : w2.cell? ⟨w.heap.size, 6, none⟩ = some (.string ⟨#[]⟩) := by rw [Lib.cell_of_heap hblk0]; rfl
  have g7 : w2.cell? ⟨w.heap.size, 7, none⟩ = some (.slice none 0 0) := by rw [Lib.cell_of_heap hblk0]; rfl
  have z0 := Lib.frozen_of_heap hblk0 0
  have z1 := Lib.frozen_of_heap hblk0 1
  have z2 := Lib.frozen_of_heap hblk0 2
  have z3 := Lib.frozen_of_heap hblk0 3
  have z4 := Lib.frozen_of_heap hblk0 4
  have z5 := Lib.frozen_of_heap hblk0 5
  have z6 := Lib.frozen_of_heap hblk0 6
  have z7 := Lib.frozen_of_heap hblk0 7
  have HBl := Lib.hid (show Below w.heap.size w (w2.setCells w.heap.size 0 [.string (mkS s2.msg.m), .string (mkS s2.msg.t), .int .i64 s2.msg.st, .string (mkS s2.msg.r), .int .i64 s2.msg.mi, .slice af n1 cf, .string (mkS s2.msg.body), .slice at_ n2 ct]) from by
    obtain ⟨r1, r2, r3, r4⟩ := setCells_rest w.heap.size [.string (mkS s2.msg.m), .string (mkS s2.msg.t), .int .i64 s2.msg.st, .string (mkS s2.msg.r), .int .i64 s2.msg.mi, .slice af n1 cf, .string (mkS s2.msg.body), .slice at_ n2 ct] 0 w2
    exact (HB1.out.trans (HAl.out.mono HB1.out.size)).trans ⟨r2, r3, r4, Nat.le_of_eq r1.symm, fun k hk => setCells_other _ _ 0 w2 k (by omega)⟩)
  have hPut := setCells_blk w.heap.size 32 [.string (mkS s2.msg.m), .string (mkS s2.msg.t), .int .i64 s2.msg.st, .string (mkS s2.msg.r), .int .i64 s2.msg.mi, .slice af n1 cf, .string (mkS s2.msg.body), .slice at_ n2 ct] 0 w2 _ hblk0 (by show 8 ≤ 8; omega)
  have y0 : (w2.setCells w.heap.size 0 [.string (mkS s2.msg.m), .string (mkS s2.msg.t), .int .i64 s2.msg.st, .string (mkS s2.msg.r), .int .i64 s2.msg.mi, .slice af n1 cf, .string (mkS s2.msg.body), .slice at_ n2 ct]).cell? ⟨w.heap.size, 0, none⟩ = some (.string (mkS s2.msg.m)) := by rw [Lib.cell_of_heap hPut]; rfl
  have y1 : (w2.setCells w.heap.size 0 [.string (mkS s2.msg.m), .string (mkS s2.msg.t), .int .i64 s2.msg.st, .string (mkS s2.msg.r), .int .i64 s2.msg.mi, .slice af n1 cf, .string (mkS s2.msg.body), .slice at_ n2 ct]).cell? ⟨w.heap.size, 1, none⟩ = some (.string (mkS s2.msg.t)) := by rw [Lib.cell_of_heap hPut]; rfl
  have y2 : (w2.setCells w.heap.size 0 [.string (mkS s2.msg.m), .string (mkS s2.msg.t), .int .i64 s2.msg.st, .string (mkS s2.msg.r), .int .i64 s2.msg.mi, .slice af n1 cf, .string (mkS s2.msg.body), .slice at_ n2 ct]).cell? ⟨w.heap.size, 2, none⟩ = some (.int .i64 s2.msg.st) := by rw [Lib.cell_of_heap hPut]; rfl
  have y3 : (w2.setCells w.heap.size 0 [.string (mkS s2.msg.m), .string (mkS s2.msg.t), .int .i64 s2.msg.st, .string (mkS s2.msg.r), .int .i64 s2.msg.mi, .slice af n1 cf, .string (mkS s2.msg.body), .slice at_ n2 ct]).cell? ⟨w.heap.size, 3, none⟩ = some (.string (mkS s2.msg.r)) := by rw [Lib.cell_of_heap hPut]; rfl
  have y4 : (w2.setCells w.heap.size 0 [.string (mkS s2.msg.m), .string (mkS s2.msg.t), .int .i64 s2.msg.st, .string (mkS s2.msg.r), .int .i64 s2.msg.mi, .slice af n1 cf, .string (mkS s2.msg.body), .slice at_ n2 ct]).cell? ⟨w.heap.size, 4, none⟩ = some (.int .i64 s2.msg.mi) := by rw [Lib.cell_of_heap hPut]; rfl
  have y5 : (w2.setCells w.heap.size 0 [.string (mkS s2.msg.m), .string (mkS s2.msg.t), .int .i64 s2.msg.st, .string (mkS s2.msg.r), .int .i64 s2.msg.mi, .slice af n1 cf, .string (mkS s2.msg.body), .slice at_ n2 ct]).cell? ⟨w.heap.size, 5, none⟩ = some (.slice af n1 cf) := by rw [Lib.cell_of_heap hPut]; rfl
  have y6 : (w2.setCells w.heap.size 0 [.string (mkS s2.msg.m), .string (mkS s2.msg.t), .int .i64 s2.msg.st, .string (mkS s2.msg.r), .int .i64 s2.msg.mi, .slice af n1 cf, .string (mkS s2.msg.body), .slice at_ n2 ct]).cell? ⟨w.heap.size, 6, none⟩ = some (.string (mkS s2.msg.body)) := by rw [Lib.cell_of_heap hPut]; rfl
  have y7 : (w2.setCells w.heap.size 0 [.string (mkS s2.msg.m), .string (mkS s2.msg.t), .int .i64 s2.msg.st, .string (mkS s2.msg.r), .int .i64 s2.msg.mi, .slice af n1 cf, .string (mkS s2.msg.body), .slice at_ n2 ct]).cell? ⟨w.heap.size, 7, none⟩ = some (.slice at_ n2 ct) := by rw [Lib.cell_of_heap hPut]; rfl
  clear hblk hblk0 hPut
  generalize hW9 : w2.setCells w.heap.size 0 [.string (mkS s2.msg.m), .string (mkS s2.msg.t), .int .i64 s2.msg.st, .string (mkS s2.msg.r), .int .i64 s2.msg.mi, .slice af n1 cf, .string (mkS s2.msg.body), .slice at_ n2 ct] = W9 at y0 y1 y2 y3 y4 y5 y6 y7 HBl
  have HW8 := Lib.hid hW9
  clear hW9
  go_wp2_with fail
  refine bodyPost_at (W := W9) HW8.out ?_
  refine bodyPost_ret (v := .tuple #[.agg #[.string (mkS s2.msg.m), .string (mkS s2.msg.t), .int .i64 s2.msg.st, .string (mkS s2.msg.r), .int .i64 s2.msg.mi, .slice af n1 cf, .string (mkS s2.msg.body), .slice at_ n2 ct], .int .i64 0, .bool true]) ?_ rfl ⟨af, n1, cf, at_, n2, ct, rfl, HBl.out⟩
  simp [results, Tryz.results13, go_sem, y0, y1, y2, y3, y4, y5, y6, y7]
end Tk
end Go.Proofs.YtpcdaaijlgilkaaGreatDoor
