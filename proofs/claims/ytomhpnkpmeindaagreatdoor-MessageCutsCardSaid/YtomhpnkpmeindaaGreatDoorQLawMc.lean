/- The law MessageCuts: its walk. -/
import Derived.Test.YtomhpnkpmeindaaGreatDoorQMsgY
import Derived.Test.YtomhpnkpmeindaaGreatDoorQPkT
import Derived.Test.YtomhpnkpmeindaaGreatDoorQArgL
import Derived.StillTailTactics
namespace Go.Proofs.YtomhpnkpmeindaaGreatDoor
open Go.RowKit
namespace Tk

set_option maxRecDepth 100000 in
set_option maxHeartbeats 4000000 in
theorem mcuts_big (L H C M : Int) (t : ByteArray) (v : Value) (l : List Int) (w : World) (hs : IsInts w v l) (hv : ErrV w.heap.size w) (hb : 250 < t.size ∨ (t.size ≤ 250 ∧ 20 < l.length)) :
    Calls Tryz.prog 3 #[.agg #[.int .i64 L, .int .i64 H, .int .i64 C, .int .i64 M], .string t, v] w (Yes2 w) := by
  have h0 : Below w.heap.size w (w.alloc (.cells #[.int .i64 L, .int .i64 H, .int .i64 C, .int .i64 M] 23)) := (Below.refl _ _).alloc (Nat.le_refl _) _
  have HL := Lib.hid (lives06_any _ (hv.later h0).top)
  have HB0 := Lib.hid h0
  obtain ⟨a, cap, rfl⟩ : ∃ a cap, v = .slice a l.length cap := by obtain ⟨a, c, h, -⟩ := hs; exact ⟨a, c, h⟩
  clear hs hv h0
  unfold Yes2 at HL ⊢
  rcases hb with h | ⟨h, h2⟩
  · have i0 : (250 : Int) < (t.size : Int) := by omega
    clear h
    go_enter Tryz.func3, Tryz.ntmps3
    go_wp2_with fail
    refine HL.out.mono ?_
    rintro e w1 ⟨rfl, hb⟩
    have HB1 := Lib.hid (HB0.out.trans (hb.mono HB0.out.size))
    clear hb
    go_wp2_with fail
    go_ret
    exact ⟨rfl, HB1.out⟩
  · have i0 : ¬ (250 : Int) < (t.size : Int) := by omega
    have i1 : (20 : Int) < (l.length : Int) := by omega
    clear h h2
    go_enter Tryz.func3, Tryz.ntmps3
    go_wp2_with fail
    refine HL.out.mono ?_
    rintro e w1 ⟨rfl, hb⟩
    have HB1 := Lib.hid (HB0.out.trans (hb.mono HB0.out.size))
    clear hb
    go_wp2_with fail
    go_ret
    exact ⟨rfl, HB1.out⟩

set_option maxRecDepth 100000 in
set_option maxHeartbeats 32000000 in
theorem mcuts_main (L H C M : Int) (t : ByteArray) (v : Value) (l : List Int) (w : World) (hs : IsInts w v l) (hv : ErrV w.heap.size w) (ht : t.size ≤ 250) (hl : l.length ≤ 20) (hL : L ≤ 9223372036854775807) (hX : H ≤ 9223372036854775807) (hC : C ≤ 9223372036854775807) (hM : M ≤ 9223372036854775807) :
    Calls Tryz.prog 3 #[.agg #[.int .i64 L, .int .i64 H, .int .i64 C, .int .i64 M], .string t, v] w (Yes2 w) := by
  obtain ⟨i0, hi, hz0, hz1, hz2⟩ := info_parts msgInfo
  have h0 : Below w.heap.size w (w.alloc (.cells #[.int .i64 L, .int .i64 H, .int .i64 C, .int .i64 M] 23)) := (Below.refl _ _).alloc (Nat.le_refl _) _
  have hbx : (w.alloc (.cells #[.int .i64 L, .int .i64 H, .int .i64 C, .int .i64 M] 23)).heap[w.heap.size]? = some (.cells #[.int .i64 L, .int .i64 H, .int .i64 C, .int .i64 M] 23 (0, 0)) := heap_alloc_last w _
  have HBx := Lib.hid hbx
  have HV := Lib.hid (hv.later h0).top
  have HL := Lib.hid (lives06_any _ HV.out)
  have HS := Lib.hid (isInts_below hs h0)
  have HB0 := Lib.hid h0
  have m0 : max L 0 = ((L.toNat : Nat) : Int) := by omega
  have m1 : max H 0 = ((H.toNat : Nat) : Int) := by omega
  have m2 : max C 0 = ((C.toNat : Nat) : Int) := by omega
  have m3 : max M 0 = ((M.toNat : Nat) : Int) := by omega
  have HLim := Lib.hid (show LimP (newP L.toNat H.toNat C.toNat M.toNat false) from ⟨by show L.toNat ≤ _; omega, by show H.toNat ≤ _; omega, by show C.toNat ≤ _; omega, by show M.toNat ≤ _; omega⟩)
  have HN := Lib.hid (fun (W : World) (t : ByteArray) (hz : t.size ≤ 100000) (hv : ErrV W.heap.size W) => pall_any L H C M _ _ _ _ t W m0 m1 m2 m3 HLim.out hz hv)
  have HRq := Lib.hid (fun (B : Nat) (W : World) (hB : B ≤ W.heap.size) => prequests_any L H C M _ _ _ _ B W hB m0 m1 m2 m3)
  have HOk0 := Lib.hid (new_ok _ _ _ _ false HLim.out)
  have HR0 := Lib.hid (new_rq L.toNat H.toNat C.toNat M.toNat)
  have HRun0 := Lib.hid (run_new L.toNat H.toNat C.toNat M.toNat false)
  have HLn := Lib.hid (length_bs t)
  unfold AllPost at HN
  generalize newP L.toNat H.toNat C.toNat M.toNat false = s0 at *
  obtain ⟨a, cap, rfl⟩ : ∃ a cap, v = .slice a l.length cap := by obtain ⟨a, c, h, -⟩ := hs; exact ⟨a, c, h⟩
  have HTu := Lib.hid (⟨ht, hl⟩ : t.size ≤ 250 ∧ l.length ≤ 20)
  have j0 : ¬ (250 : Int) < (t.size : Int) := by omega
  have j1 : ¬ (20 : Int) < (l.length : Int) := by omega
  clear hs hv h0 hbx m0 m1 m2 m3 hL hX hC hM HLim ht hl
  unfold Yes2 at HL ⊢
  go_enter Tryz.func3, Tryz.ntmps3
  go_wp2_with fail
  generalize w.alloc (.cells #[.int .i64 L, .int .i64 H, .int .i64 C, .int .i64 M] 23) = w0 at *
  have HGl := Lib.hid (show w.heap.size < w0.heap.size from (Array.getElem?_eq_some_iff.1 HBx.out).1)
  generalize w.heap.size = g at HBx HGl ⊢
  have HLc := Lib.hid (fun (W : World) (hb : Below w0.heap.size w0 W) (i : Nat) (v : Value) (hv : (#[.int .i64 L, .int .i64 H, .int .i64 C, .int .i64 M] : Array Value)[i]? = some v) => lim_cell ((hb.block g HGl.out).trans HBx.out) i v hv)
  refine HL.out.mono ?_
  rintro e w1 ⟨rfl, hb⟩
  have HB1 := Lib.hid hb
  have k0 := HLc.out w1 hb 0 _ rfl
  have k1 := HLc.out w1 hb 1 _ rfl
  have k2 := HLc.out w1 hb 2 _ rfl
  have k3 := HLc.out w1 hb 3 _ rfl
  clear hb HL
  go_wp2_with fail
  refine (HN.out _ t (by have := HTu.out; omega) (HV.out.later HB1.out).top).mono ?_
  rintro e w3 ⟨v3, VsW, rfl, hmap, hms, hbe⟩
  have HB3 := Lib.hid (HB1.out.trans (hbe.mono HB1.out.size))
  have HMapW := Lib.hid hmap
  obtain ⟨avw, cvw, rfl⟩ := hms.val
  have HMsW := Lib.hid hms
  have k0 := HLc.out w3 HB3.out 0 _ rfl
  have k1 := HLc.out w3 HB3.out 1 _ rfl
  have k2 := HLc.out w3 HB3.out 2 _ rfl
  have k3 := HLc.out w3 HB3.out 3 _ rfl
  have HV3 := Lib.hid (HV.out.later HB3.out).top
  generalize hsa : allS s0 (bs t) = sa at *
  have HSa := Lib.hid hsa
  clear hmap hms hbe hsa j0 j1
  go_wp2_with fail
  refine (HRq.out w3.heap.size w3 (Nat.le_refl _)).mono ?_
  rintro e W1 ⟨b, V, rfl, hbb, hsy, hbe⟩
  have HSy := Lib.hid hsy
  have HW1 := Lib.hid hbe
  clear hbb hsy hbe k0 k1 k2 k3 HRq
  unfold ptr
  go_wp2_with fail
  go_loopw [10, 11, 12, 13] (fun v10 v11 v12 v13 wr => ∃ (at_ i r : Nat) (Vs : List MV) (sp : Pr) (Vp : PV), v11 = .int .i64 at_ ∧ v12 = .int .i64 i ∧ v13 = .int .i64 r ∧ i ≤ l.length ∧ r ≤ at_ ∧ Hid (Fed s0 (bs t) at_ (Vs.map (·.1)) sp) ∧ Hid (Sync w3.heap.size b sp Vp wr) ∧ Hid (Msgs w3.heap.size wr v10 Vs) ∧ Hid (MAp b Vp v10 Vs) ∧ Hid (Below w3.heap.size w3 wr)) (fun _ v11 _ _ _ => t.size - (RowKit.intOf v11).toNat)
  case atStart => exact ⟨0, 0, 0, [], s0, V, rfl, rfl, rfl, Nat.zero_le _, Nat.le_refl _, Lib.hid (Fed.start (bs t) HOk0.out HR0.out HRun0.out), HSy, Lib.hid (Msgs.nil _ _), Lib.hid (MAp.nil _ _), HW1⟩
  case round =>
    obtain ⟨at_, i, r, Vs, sp, Vp, rfl, rfl, rfl, hil, hra, HFed, HSp, HMs, HAp, HBp⟩ := hrel
    rename World => W
    obtain ⟨av, cv, rfl⟩ := HMs.out.val
    have hle := HFed.out.le
    rw [HLn.out] at hle
    have HSt := Lib.hid (pstat_any HSp.out)
    have htz := HTu.out.1
    have hlz := HTu.out.2
    unfold ptr at HSt
    by_cases hgo : at_ < t.size ∧ sp.bad = 0
    · obtain ⟨g1, g2⟩ := hgo
      have hpart : ∀ k : Nat, at_ < k → k ≤ t.size → ∃ (n : Nat) (s2 : Pr), 1 ≤ n ∧ at_ + n ≤ k ∧ s2.Ok (at_ + n) ∧ Rq s2 ∧ Fed s0 (bs t) (at_ + n) (Vs.map (·.1) ++ (takeP s2).1) (takeP s2).2 ∧
          Calls Tryz.prog 14 #[.pointer (some ⟨b, 0, none⟩), .string (t.extract at_ k)] W fun e w' => e = .returned (.tuple #[.int .i64 n, .int .i64 s2.bad]) ∧ SyncTo w3.heap.size b s2 Vp W w' := by
        intro k h1 h2
        obtain ⟨z1, z2, z3, z4, z5, z6⟩ := HFed.out.go_on (k := k) g2 h1 (by rw [HLn.out]; exact h2)
        have hfd := pfeed_any (t.extract at_ k) HSp.out HFed.out.ok.self HFed.out.rq (by have := HFed.out.ok.fit.left; rw [ByteArray.size_extract]; omega) (HV3.out.later HBp.out)
        rw [bs_extract] at hfd
        exact ⟨_, _, z2, z3, z4, z5, z6, hfd⟩
      have HPart := Lib.hid hpart
      have c1 : (at_ : Int) < (t.size : Int) := by omega
      have c2 : ((sp.bad : Int) == 0) = true := by simp [g2]
      have c7 : (r : Int) ≤ 280 := by omega
      clear hpart g1 g2
      go_wp2_with fail
      refine HSt.out.mono ?_
      rintro e W3 ⟨rfl, rfl⟩
      by_cases hlast : i < l.length
      · obtain ⟨a', c', e', hcells⟩ := HS.out
        injection e' with e1 _ e2
        subst e1 e2
        obtain ⟨bb, o, rfl, hc⟩ := hcells i hlast
        have hcW := ((HB3.out.trans (HBp.out.mono HB3.out.size)).cell (p := ⟨bb, o + i, none⟩) (cell_lt hc)).trans hc
        have q0 : (0 : Int) ≤ (i : Int) := by omega
        have q1 : (i : Int) < (l.length : Int) := by omega
        have e1 : (t.size : Int) - (at_ : Int) = ((t.size - at_ : Nat) : Int) := by omega
        have p1 : 1 ≤ t.size - at_ := by omega
        have p2 : t.size - at_ ≤ 1099511627776 := by omega
        have p3 : t.size - at_ + at_ = t.size := by omega
        clear hc hcells
        generalize t.size - at_ = m0 at *
        go_wp2_with fail
        refine (pick_any _ m0 _ p1 p2).mono ?_
        rintro e w6 ⟨k, hk, rfl, rfl⟩
        obtain ⟨K, hK⟩ : ∃ K, K = at_ + 1 + k := ⟨_, rfl⟩
        have hw : IntKind.i64.wrap ((at_ : Int) + 1 + (k : Int)) = (K : Int) := by rw [IntWalk.i64_in _ (by omega)]; omega
        have r0 : (0 : Int) ≤ (at_ : Int) := by omega
        have r1 : (at_ : Int) ≤ (K : Int) := by omega
        have r2 : (K : Int) ≤ (t.size : Int) := by omega
        have r3 : (0 : Int) ≤ (K : Int) := by omega
        have hKt : K ≤ t.size := by omega
        have haK : at_ < K := by omega
        clear e1 q0 q1 p1 p2 p3 hk hK
        have HI1 := Lib.hid (show i + 1 ≤ l.length from hlast)
        have hi1 : (i : Int) + 1 ≤ 20 := by omega
        obtain ⟨n, s2, z1, z2, z4, z5, z6, z7⟩ := HPart.out K haK hKt
        have HZ1 := Lib.hid (⟨z1, z2⟩ : 1 ≤ n ∧ at_ + n ≤ K)
        have HOk2 := Lib.hid z4
        have HRq2 := Lib.hid z5
        have HFd2 := Lib.hid z6
        have HFd := Lib.hid z7
        have n0 : ¬ (n : Int) < 0 := by omega
        have n1 : ¬ (K : Int) - (at_ : Int) < (n : Int) := by omega
        have nw : IntKind.i64.wrap ((K : Int) - (at_ : Int)) = (K : Int) - (at_ : Int) := IntWalk.i64_in _ (by omega)
        have n2 : (at_ : Int) + (n : Int) ≤ 250 := by omega
        have HKt := Lib.hid (show at_ + n ≤ t.size by omega)
        have HAt := Lib.hid (⟨hra, htz⟩ : _ ∧ _)
        clear z1 z2 z4 z5 z6 z7 HPart hle hlz
        go_wp2_with fail
        refine HFd.out.mono ?_
        rintro e W4 ⟨rfl, V4, hs4, ht4⟩
        obtain ⟨hm4, ha4⟩ := HMs.out.turn HAp.out ht4
        have HM4 := Lib.hid hm4
        have HA4 := Lib.hid ha4
        have HS4 := Lib.hid hs4
        have HB4 := Lib.hid (HBp.out.trans (HSp.out.toBelow ht4))
        clear hm4 ha4 hs4 ht4 HMs HAp HSp HFd HBp
        go_wp2_with fail
        cases hw : waitP s2
        · have HNx := Lib.hid (pnext_no HS4.out hw)
          unfold ptr nxZ at HNx
          have htk : takeP s2 = ([], s2) := by unfold takeP; rw [if_neg (by simp [hw])]
          rw [htk] at HFd2
          have HFd3 := Lib.hid (show Fed s0 (bs t) (at_ + n) (Vs.map (·.1)) s2 by have := HFd2.out; simpa using this)
          clear hw htk HFd2
          refine HNx.out.mono ?_
          rintro e W5 ⟨rfl, hb30⟩
          have hb3 : Below W4.heap.size W4 (W5.alloc (.cells #[.string ⟨#[]⟩, .string ⟨#[]⟩, .int .i64 0, .string ⟨#[]⟩, .int .i64 0, .slice none 0 0, .string ⟨#[]⟩, .slice none 0 0] 37)) := hb30.alloc hb30.size _
          have HM5 := Lib.hid (HM4.out.below hb3)
          have HB5 := Lib.hid (HB4.out.trans (hb3.mono HB4.out.size))
          have HS5 := Lib.hid (HS4.out.below hb3)
          clear hb30 hb3 HM4 HB4 HS4 HNx
          go_wp2_with fail
          exact ⟨⟨at_ + n, i + 1, r + 1, Vs, s2, V4, by go_num, by go_num, by go_num, HI1.out, by have := HAt.out.1; have := HZ1.out.1; omega, HFd3, HS5, HM5, HA4, HB5⟩, by have := HZ1.out; have := HKt.out; simp [RowKit.intOf]; omega⟩
        · have HNx := Lib.hid (pnext_any HS4.out HRq2.out.rq hw)
          obtain ⟨a1, k1, hvf⟩ : ∃ a c, V4.f = .slice a s2.msg.f.length c := by obtain ⟨q, h⟩ := HS4.out.par; obtain ⟨a, c, hv, -⟩ := isFlds_own h.flds; exact ⟨a, c, hv⟩
          obtain ⟨a2, k2, hvt⟩ : ∃ a c, V4.t = .slice a s2.msg.tr.length c := by obtain ⟨q, h⟩ := HS4.out.par; obtain ⟨a, c, hv, -⟩ := isFlds_own h.trl; exact ⟨a, c, hv⟩
          have hmsg : (msgL s2.msg V4.f V4.t).toArray = #[.string (mkS s2.msg.m), .string (mkS s2.msg.t), .int .i64 s2.msg.st, .string (mkS s2.msg.r), .int .i64 s2.msg.mi, .slice a1 s2.msg.f.length k1, .string (mkS s2.msg.body), .slice a2 s2.msg.tr.length k2] := by unfold msgL; rw [hvf, hvt]
          rw [hmsg] at HNx
          have HMsg := Lib.hid hmsg
          unfold ptr at HNx
          have htk : takeP s2 = ([s2.msg], s2.fresh) := by unfold takeP; rw [if_pos hw]
          rw [htk] at HFd2
          clear hw htk hvf hvt hmsg
          refine HNx.out.mono ?_
          rintro e W5 ⟨rfl, hn3⟩
          obtain ⟨q2, hpar⟩ := HS4.out.par
          obtain ⟨V3, hs3, ht3, hm3, ha3, hr3, hd3⟩ := HM4.out.next HA4.out hpar hn3
          have hb5 : Below W5.heap.size W5 ((W5.alloc (.cells #[.string (mkS s2.msg.m), .string (mkS s2.msg.t), .int .i64 s2.msg.st, .string (mkS s2.msg.r), .int .i64 s2.msg.mi, .slice a1 s2.msg.f.length k1, .string (mkS s2.msg.body), .slice a2 s2.msg.tr.length k2] 37)).alloc (.cells #[.string (mkS s2.msg.m), .string (mkS s2.msg.t), .int .i64 s2.msg.st, .string (mkS s2.msg.r), .int .i64 s2.msg.mi, .slice a1 s2.msg.f.length k1, .string (mkS s2.msg.body), .slice a2 s2.msg.tr.length k2] 37)) := ((Below.refl _ _).alloc (Nat.le_refl _) _).alloc (by simp) _
          obtain ⟨x, hx⟩ : ∃ x : MV, x = (s2.msg, V4.f, V4.t) := ⟨_, rfl⟩
          have hcells : msgL x.1 x.2.1 x.2.2 = [.string (mkS s2.msg.m), .string (mkS s2.msg.t), .int .i64 s2.msg.st, .string (mkS s2.msg.r), .int .i64 s2.msg.mi, .slice a1 s2.msg.f.length k1, .string (mkS s2.msg.body), .slice a2 s2.msg.tr.length k2] := by rw [hx]; exact congrArg Array.toList HMsg.out
          rw [← hx] at hr3
          have HX := Lib.hid (show x.1 = s2.msg from by rw [hx])
          have hd4 : ∀ k, x.2.1.ownBlock = some k ∨ x.2.2.ownBlock = some k → ¬ PMine b V3 k := by rw [hx]; exact hd3
          have HS3 := Lib.hid (hs3.below hb5)
          have HM3 := Lib.hid (hm3.below hb5)
          have HA3 := Lib.hid ha3
          have HR3 := Lib.hid (hr3.same fun k e => hb5.block k (by rcases e with e | e; exact (hr3.f.lt k e).2; exact (hr3.t.lt k e).2))
          have HD3 := Lib.hid hd4
          have HB5 := Lib.hid ((HB4.out.trans (HS4.out.toBelow ht3)).trans (hb5.mono (HB4.out.trans (HS4.out.toBelow ht3)).size))
          have HC := Lib.hid hcells
          have hw4 : (W5.alloc (.cells #[.string (mkS s2.msg.m), .string (mkS s2.msg.t), .int .i64 s2.msg.st, .string (mkS s2.msg.r), .int .i64 s2.msg.mi, .slice a1 s2.msg.f.length k1, .string (mkS s2.msg.body), .slice a2 s2.msg.tr.length k2] 37)).heap.size = W5.heap.size + 1 := by simp
          have hc1 : ∀ j u, ([.string (mkS s2.msg.m), .string (mkS s2.msg.t), .int .i64 s2.msg.st, .string (mkS s2.msg.r), .int .i64 s2.msg.mi, .slice a1 s2.msg.f.length k1, .string (mkS s2.msg.body), .slice a2 s2.msg.tr.length k2] : List Value)[j]? = some u → ((W5.alloc (.cells #[.string (mkS s2.msg.m), .string (mkS s2.msg.t), .int .i64 s2.msg.st, .string (mkS s2.msg.r), .int .i64 s2.msg.mi, .slice a1 s2.msg.f.length k1, .string (mkS s2.msg.body), .slice a2 s2.msg.tr.length k2] 37)).alloc (.cells #[.string (mkS s2.msg.m), .string (mkS s2.msg.t), .int .i64 s2.msg.st, .string (mkS s2.msg.r), .int .i64 s2.msg.mi, .slice a1 s2.msg.f.length k1, .string (mkS s2.msg.body), .slice a2 s2.msg.tr.length k2] 37)).cell? ((⟨W5.heap.size + 1, 0, none⟩ : Addr).add j) = some u := by
            intro j u hj
            have h1 := heap_alloc_last (W5.alloc (.cells #[.string (mkS s2.msg.m), .string (mkS s2.msg.t), .int .i64 s2.msg.st, .string (mkS s2.msg.r), .int .i64 s2.msg.mi, .slice a1 s2.msg.f.length k1, .string (mkS s2.msg.body), .slice a2 s2.msg.tr.length k2] 37)) (Obj.cells #[.string (mkS s2.msg.m), .string (mkS s2.msg.t), .int .i64 s2.msg.st, .string (mkS s2.msg.r), .int .i64 s2.msg.mi, .slice a1 s2.msg.f.length k1, .string (mkS s2.msg.body), .slice a2 s2.msg.tr.length k2] 37)
            rw [hw4] at h1
            rw [show (⟨W5.heap.size + 1, 0, none⟩ : Addr).add j = ⟨W5.heap.size + 1, j, none⟩ by by_cases h0 : j = 0 <;> simp [Addr.add, h0]]
            rw [Lib.cell_of_heap h1, ← Array.getElem?_toList]
            exact hj
          have hc2 : ∀ u ∈ ([.string (mkS s2.msg.m), .string (mkS s2.msg.t), .int .i64 s2.msg.st, .string (mkS s2.msg.r), .int .i64 s2.msg.mi, .slice a1 s2.msg.f.length k1, .string (mkS s2.msg.body), .slice a2 s2.msg.tr.length k2] : List Value), u.oneCell' = true := by intro u hu; simp at hu; rcases hu with rfl | rfl | rfl | rfl | rfl | rfl | rfl | rfl <;> rfl
          have HC1 := Lib.hid hc1
          have HC2 := Lib.hid hc2
          have hvl : Vs.length ≤ 250 := by
            have h1 := go_few ((bs t).take at_) s0
            rw [HFed.out.go] at h1
            have h1 : Vs.length ≤ ((bs t).take at_).length := by simpa only [List.length_map] using h1
            have h2 : ((bs t).take at_).length ≤ t.size := by rw [List.length_take, HLn.out]; omega
            have := HAt.out.2
            omega
          have HBs := Lib.hid (show w3.heap.size ≤ ((W5.alloc (.cells #[.string (mkS s2.msg.m), .string (mkS s2.msg.t), .int .i64 s2.msg.st, .string (mkS s2.msg.r), .int .i64 s2.msg.mi, .slice a1 s2.msg.f.length k1, .string (mkS s2.msg.body), .slice a2 s2.msg.tr.length k2] 37)).alloc (.cells #[.string (mkS s2.msg.m), .string (mkS s2.msg.t), .int .i64 s2.msg.st, .string (mkS s2.msg.r), .int .i64 s2.msg.mi, .slice a1 s2.msg.f.length k1, .string (mkS s2.msg.body), .slice a2 s2.msg.tr.length k2] 37)).heap.size from HB5.out.size)
          clear hs3 ht3 hm3 ha3 hr3 hd3 hd4 hpar hn3 HNx HM4 HA4 HB4 HS4 hb5 hcells hc1 hc2 hw4 hx
          go_wp2_with (at_builtin; refine append_stay (by rfl) _ _ 26 rfl w3.heap.size 37 i0 (.agg #[.string .empty, .string .empty, .int .i64 0, .string .empty, .int .i64 0, .slice none 0 0, .string .empty, .slice none 0 0]) 8 128 Tryz.underlying26 hi hz0 hz1 hz2 rfl (by decide) _ _ _ rfl HM3.out.own ⟨W5.heap.size + 1, 0, none⟩ 1 1 [.string (mkS s2.msg.m), .string (mkS s2.msg.t), .int .i64 s2.msg.st, .string (mkS s2.msg.r), .int .i64 s2.msg.mi, .slice a1 s2.msg.f.length k1, .string (mkS s2.msg.body), .slice a2 s2.msg.tr.length k2] rfl rfl HC1.out HC2.out ?c3 ?c4 HBs.out ?_)
          case c3 => unfold maxLen; omega
          case c4 => omega
          intro v' w6 ho hg hst
          have HM6 := Lib.hid (HM3.out.snoc x HR3.out (by rw [HC.out]; exact ho) hg)
          obtain ⟨qz, hpz⟩ := HS3.out.par
          have HA6 := Lib.hid (HA3.out.snoc hpz x HD3.out hst)
          have HS6 := Lib.hid (HS3.out.grownBy HA3.out hg)
          have HB6 := Lib.hid (HB5.out.trans (show Below w3.heap.size _ w6 from ⟨hg.os, hg.tape, hg.output, hg.size, fun k hk => hg.block k (Nat.lt_of_lt_of_le hk HBs.out) (fun e => by have := (HM3.out.own.lt k e.symm).1; omega)⟩))
          obtain ⟨av', cv', rfl⟩ := HM6.out.val
          clear hpz ho hg hst HM3 HA3 HS3 HB5
          go_wp2_with fail
          exact ⟨⟨at_ + n, i + 1, r + 1, Vs ++ [x], s2.fresh, V3, by go_num, by go_num, by go_num, HI1.out, by have := HAt.out.1; have := HZ1.out.1; omega, Lib.hid (by rw [List.map_append, List.map_cons, List.map_nil, HX.out]; exact HFd2.out), HS6, HM6, HA6, HB6⟩, by have := HZ1.out; have := HKt.out; simp [RowKit.intOf]; omega⟩
      · have hil2 : i = l.length := by omega
        have c3 : ¬ (i : Int) < (l.length : Int) := by omega
        have r0 : (0 : Int) ≤ (at_ : Int) := by omega
        have r1 : (at_ : Int) ≤ (t.size : Int) := by omega
        obtain ⟨n, s2, z1, z2, z4, z5, z6, z7⟩ := HPart.out t.size (by omega) (Nat.le_refl _)
        have HZ1 := Lib.hid (⟨z1, z2⟩ : 1 ≤ n ∧ at_ + n ≤ t.size)
        have HOk2 := Lib.hid z4
        have HRq2 := Lib.hid z5
        have HFd2 := Lib.hid z6
        have HFd := Lib.hid z7
        have n0 : ¬ (n : Int) < 0 := by omega
        have n1 : ¬ (t.size : Int) - (at_ : Int) < (n : Int) := by omega
        have nw : IntKind.i64.wrap ((t.size : Int) - (at_ : Int)) = (t.size : Int) - (at_ : Int) := IntWalk.i64_in _ (by omega)
        have n2 : (at_ : Int) + (n : Int) ≤ 250 := by omega
        have HKt := Lib.hid (show at_ + n ≤ t.size by omega)
        have HAt := Lib.hid (⟨hra, htz⟩ : _ ∧ _)
        clear z1 z2 z4 z5 z6 z7 HPart hle hlz
        go_wp2_with fail
        refine HFd.out.mono ?_
        rintro e W4 ⟨rfl, V4, hs4, ht4⟩
        obtain ⟨hm4, ha4⟩ := HMs.out.turn HAp.out ht4
        have HM4 := Lib.hid hm4
        have HA4 := Lib.hid ha4
        have HS4 := Lib.hid hs4
        have HB4 := Lib.hid (HBp.out.trans (HSp.out.toBelow ht4))
        clear hm4 ha4 hs4 ht4 HMs HAp HSp HFd HBp
        go_wp2_with fail
        cases hw : waitP s2
        · have HNx := Lib.hid (pnext_no HS4.out hw)
          unfold ptr nxZ at HNx
          have htk : takeP s2 = ([], s2) := by unfold takeP; rw [if_neg (by simp [hw])]
          rw [htk] at HFd2
          have HFd3 := Lib.hid (show Fed s0 (bs t) (at_ + n) (Vs.map (·.1)) s2 by have := HFd2.out; simpa using this)
          clear hw htk HFd2
          refine HNx.out.mono ?_
          rintro e W5 ⟨rfl, hb30⟩
          have hb3 : Below W4.heap.size W4 (W5.alloc (.cells #[.string ⟨#[]⟩, .string ⟨#[]⟩, .int .i64 0, .string ⟨#[]⟩, .int .i64 0, .slice none 0 0, .string ⟨#[]⟩, .slice none 0 0] 37)) := hb30.alloc hb30.size _
          have HM5 := Lib.hid (HM4.out.below hb3)
          have HB5 := Lib.hid (HB4.out.trans (hb3.mono HB4.out.size))
          have HS5 := Lib.hid (HS4.out.below hb3)
          clear hb30 hb3 HM4 HB4 HS4 HNx
          go_wp2_with fail
          exact ⟨⟨at_ + n, i, r + 1, Vs, s2, V4, by go_num, by go_num, by go_num, hil, by have := HAt.out.1; have := HZ1.out.1; omega, HFd3, HS5, HM5, HA4, HB5⟩, by have := HZ1.out; have := HKt.out; simp [RowKit.intOf]; omega⟩
        · have HNx := Lib.hid (pnext_any HS4.out HRq2.out.rq hw)
          obtain ⟨a1, k1, hvf⟩ : ∃ a c, V4.f = .slice a s2.msg.f.length c := by obtain ⟨q, h⟩ := HS4.out.par; obtain ⟨a, c, hv, -⟩ := isFlds_own h.flds; exact ⟨a, c, hv⟩
          obtain ⟨a2, k2, hvt⟩ : ∃ a c, V4.t = .slice a s2.msg.tr.length c := by obtain ⟨q, h⟩ := HS4.out.par; obtain ⟨a, c, hv, -⟩ := isFlds_own h.trl; exact ⟨a, c, hv⟩
          have hmsg : (msgL s2.msg V4.f V4.t).toArray = #[.string (mkS s2.msg.m), .string (mkS s2.msg.t), .int .i64 s2.msg.st, .string (mkS s2.msg.r), .int .i64 s2.msg.mi, .slice a1 s2.msg.f.length k1, .string (mkS s2.msg.body), .slice a2 s2.msg.tr.length k2] := by unfold msgL; rw [hvf, hvt]
          rw [hmsg] at HNx
          have HMsg := Lib.hid hmsg
          unfold ptr at HNx
          have htk : takeP s2 = ([s2.msg], s2.fresh) := by unfold takeP; rw [if_pos hw]
          rw [htk] at HFd2
          clear hw htk hvf hvt hmsg
          refine HNx.out.mono ?_
          rintro e W5 ⟨rfl, hn3⟩
          obtain ⟨q2, hpar⟩ := HS4.out.par
          obtain ⟨V3, hs3, ht3, hm3, ha3, hr3, hd3⟩ := HM4.out.next HA4.out hpar hn3
          have hb5 : Below W5.heap.size W5 ((W5.alloc (.cells #[.string (mkS s2.msg.m), .string (mkS s2.msg.t), .int .i64 s2.msg.st, .string (mkS s2.msg.r), .int .i64 s2.msg.mi, .slice a1 s2.msg.f.length k1, .string (mkS s2.msg.body), .slice a2 s2.msg.tr.length k2] 37)).alloc (.cells #[.string (mkS s2.msg.m), .string (mkS s2.msg.t), .int .i64 s2.msg.st, .string (mkS s2.msg.r), .int .i64 s2.msg.mi, .slice a1 s2.msg.f.length k1, .string (mkS s2.msg.body), .slice a2 s2.msg.tr.length k2] 37)) := ((Below.refl _ _).alloc (Nat.le_refl _) _).alloc (by simp) _
          obtain ⟨x, hx⟩ : ∃ x : MV, x = (s2.msg, V4.f, V4.t) := ⟨_, rfl⟩
          have hcells : msgL x.1 x.2.1 x.2.2 = [.string (mkS s2.msg.m), .string (mkS s2.msg.t), .int .i64 s2.msg.st, .string (mkS s2.msg.r), .int .i64 s2.msg.mi, .slice a1 s2.msg.f.length k1, .string (mkS s2.msg.body), .slice a2 s2.msg.tr.length k2] := by rw [hx]; exact congrArg Array.toList HMsg.out
          rw [← hx] at hr3
          have HX := Lib.hid (show x.1 = s2.msg from by rw [hx])
          have hd4 : ∀ k, x.2.1.ownBlock = some k ∨ x.2.2.ownBlock = some k → ¬ PMine b V3 k := by rw [hx]; exact hd3
          have HS3 := Lib.hid (hs3.below hb5)
          have HM3 := Lib.hid (hm3.below hb5)
          have HA3 := Lib.hid ha3
          have HR3 := Lib.hid (hr3.same fun k e => hb5.block k (by rcases e with e | e; exact (hr3.f.lt k e).2; exact (hr3.t.lt k e).2))
          have HD3 := Lib.hid hd4
          have HB5 := Lib.hid ((HB4.out.trans (HS4.out.toBelow ht3)).trans (hb5.mono (HB4.out.trans (HS4.out.toBelow ht3)).size))
          have HC := Lib.hid hcells
          have hw4 : (W5.alloc (.cells #[.string (mkS s2.msg.m), .string (mkS s2.msg.t), .int .i64 s2.msg.st, .string (mkS s2.msg.r), .int .i64 s2.msg.mi, .slice a1 s2.msg.f.length k1, .string (mkS s2.msg.body), .slice a2 s2.msg.tr.length k2] 37)).heap.size = W5.heap.size + 1 := by simp
          have hc1 : ∀ j u, ([.string (mkS s2.msg.m), .string (mkS s2.msg.t), .int .i64 s2.msg.st, .string (mkS s2.msg.r), .int .i64 s2.msg.mi, .slice a1 s2.msg.f.length k1, .string (mkS s2.msg.body), .slice a2 s2.msg.tr.length k2] : List Value)[j]? = some u → ((W5.alloc (.cells #[.string (mkS s2.msg.m), .string (mkS s2.msg.t), .int .i64 s2.msg.st, .string (mkS s2.msg.r), .int .i64 s2.msg.mi, .slice a1 s2.msg.f.length k1, .string (mkS s2.msg.body), .slice a2 s2.msg.tr.length k2] 37)).alloc (.cells #[.string (mkS s2.msg.m), .string (mkS s2.msg.t), .int .i64 s2.msg.st, .string (mkS s2.msg.r), .int .i64 s2.msg.mi, .slice a1 s2.msg.f.length k1, .string (mkS s2.msg.body), .slice a2 s2.msg.tr.length k2] 37)).cell? ((⟨W5.heap.size + 1, 0, none⟩ : Addr).add j) = some u := by
            intro j u hj
            have h1 := heap_alloc_last (W5.alloc (.cells #[.string (mkS s2.msg.m), .string (mkS s2.msg.t), .int .i64 s2.msg.st, .string (mkS s2.msg.r), .int .i64 s2.msg.mi, .slice a1 s2.msg.f.length k1, .string (mkS s2.msg.body), .slice a2 s2.msg.tr.length k2] 37)) (Obj.cells #[.string (mkS s2.msg.m), .string (mkS s2.msg.t), .int .i64 s2.msg.st, .string (mkS s2.msg.r), .int .i64 s2.msg.mi, .slice a1 s2.msg.f.length k1, .string (mkS s2.msg.body), .slice a2 s2.msg.tr.length k2] 37)
            rw [hw4] at h1
            rw [show (⟨W5.heap.size + 1, 0, none⟩ : Addr).add j = ⟨W5.heap.size + 1, j, none⟩ by by_cases h0 : j = 0 <;> simp [Addr.add, h0]]
            rw [Lib.cell_of_heap h1, ← Array.getElem?_toList]
            exact hj
          have hc2 : ∀ u ∈ ([.string (mkS s2.msg.m), .string (mkS s2.msg.t), .int .i64 s2.msg.st, .string (mkS s2.msg.r), .int .i64 s2.msg.mi, .slice a1 s2.msg.f.length k1, .string (mkS s2.msg.body), .slice a2 s2.msg.tr.length k2] : List Value), u.oneCell' = true := by intro u hu; simp at hu; rcases hu with rfl | rfl | rfl | rfl | rfl | rfl | rfl | rfl <;> rfl
          have HC1 := Lib.hid hc1
          have HC2 := Lib.hid hc2
          have hvl : Vs.length ≤ 250 := by
            have h1 := go_few ((bs t).take at_) s0
            rw [HFed.out.go] at h1
            have h1 : Vs.length ≤ ((bs t).take at_).length := by simpa only [List.length_map] using h1
            have h2 : ((bs t).take at_).length ≤ t.size := by rw [List.length_take, HLn.out]; omega
            have := HAt.out.2
            omega
          have HBs := Lib.hid (show w3.heap.size ≤ ((W5.alloc (.cells #[.string (mkS s2.msg.m), .string (mkS s2.msg.t), .int .i64 s2.msg.st, .string (mkS s2.msg.r), .int .i64 s2.msg.mi, .slice a1 s2.msg.f.length k1, .string (mkS s2.msg.body), .slice a2 s2.msg.tr.length k2] 37)).alloc (.cells #[.string (mkS s2.msg.m), .string (mkS s2.msg.t), .int .i64 s2.msg.st, .string (mkS s2.msg.r), .int .i64 s2.msg.mi, .slice a1 s2.msg.f.length k1, .string (mkS s2.msg.body), .slice a2 s2.msg.tr.length k2] 37)).heap.size from HB5.out.size)
          clear hs3 ht3 hm3 ha3 hr3 hd3 hd4 hpar hn3 HNx HM4 HA4 HB4 HS4 hb5 hcells hc1 hc2 hw4 hx
          go_wp2_with (at_builtin; refine append_stay (by rfl) _ _ 26 rfl w3.heap.size 37 i0 (.agg #[.string .empty, .string .empty, .int .i64 0, .string .empty, .int .i64 0, .slice none 0 0, .string .empty, .slice none 0 0]) 8 128 Tryz.underlying26 hi hz0 hz1 hz2 rfl (by decide) _ _ _ rfl HM3.out.own ⟨W5.heap.size + 1, 0, none⟩ 1 1 [.string (mkS s2.msg.m), .string (mkS s2.msg.t), .int .i64 s2.msg.st, .string (mkS s2.msg.r), .int .i64 s2.msg.mi, .slice a1 s2.msg.f.length k1, .string (mkS s2.msg.body), .slice a2 s2.msg.tr.length k2] rfl rfl HC1.out HC2.out ?c3 ?c4 HBs.out ?_)
          case c3 => unfold maxLen; omega
          case c4 => omega
          intro v' w6 ho hg hst
          have HM6 := Lib.hid (HM3.out.snoc x HR3.out (by rw [HC.out]; exact ho) hg)
          obtain ⟨qz, hpz⟩ := HS3.out.par
          have HA6 := Lib.hid (HA3.out.snoc hpz x HD3.out hst)
          have HS6 := Lib.hid (HS3.out.grownBy HA3.out hg)
          have HB6 := Lib.hid (HB5.out.trans (show Below w3.heap.size _ w6 from ⟨hg.os, hg.tape, hg.output, hg.size, fun k hk => hg.block k (Nat.lt_of_lt_of_le hk HBs.out) (fun e => by have := (HM3.out.own.lt k e.symm).1; omega)⟩))
          obtain ⟨av', cv', rfl⟩ := HM6.out.val
          clear hpz ho hg hst HM3 HA3 HS3 HB5
          go_wp2_with fail
          exact ⟨⟨at_ + n, i, r + 1, Vs ++ [x], s2.fresh, V3, by go_num, by go_num, by go_num, hil, by have := HAt.out.1; have := HZ1.out.1; omega, Lib.hid (by rw [List.map_append, List.map_cons, List.map_nil, HX.out]; exact HFd2.out), HS6, HM6, HA6, HB6⟩, by have := HZ1.out; have := HKt.out; simp [RowKit.intOf]; omega⟩
    · -- the end
      have hend : sp.bad ≠ 0 ∨ (bs t).length ≤ at_ := by
        rw [HLn.out]
        by_cases h1 : sp.bad = 0
        · right; exact Nat.le_of_not_lt fun h => hgo ⟨h, h1⟩
        · exact .inl h1
      obtain ⟨hallM, hall⟩ := HFed.out.fin hend
      rw [HSa.out] at hall
      rw [← HMapW.out] at hallM
      have hlen : VsW.length = Vs.length := by have := congrArg List.length hallM; simpa using this
      have HAM := Lib.hid hallM
      have hvl : VsW.length ≤ 250 := by
        have h1 := go_few (bs t) s0
        change (allM s0 (bs t)).length ≤ _ at h1
        rw [← HMapW.out, List.length_map, HLn.out] at h1
        omega
      have HEnd := Lib.hid (fun W' (h : W' = W) => by subst h; exact pend_any HSp.out HFed.out.ok HFed.out.rq : ∀ W', W' = W → Calls Tryz.prog 16 #[ptr b] W' fun e w' => e = .returned (.int .i64 (endP sp).bad) ∧ SyncTo w3.heap.size b (endP sp) Vp W' w')
      have hif : at_ < t.size → ((sp.bad : Int) == 0) = false := fun h1 => by
        have : sp.bad ≠ 0 := fun h2 => hgo ⟨h1, h2⟩
        simp [this]
      have lb : ((Vs.length : Int) != (VsW.length : Int)) = false := by rw [hlen]; simp
      have HLen := Lib.hid (⟨hlen, hvl⟩ : VsW.length = Vs.length ∧ VsW.length ≤ 250)
      unfold ptr at HEnd
      by_cases hb : sp.bad = 0
      · have c2 : ((sp.bad : Int) == 0) = true := by simp [hb]
        have c1 : ¬ (at_ : Int) < (t.size : Int) := by
          intro h; have := hif (by omega); rw [c2] at this; cases this
        rw [← hall] at HEnd
        have lc : ((sa : Int) != (sa : Int)) = false := by simp
        clear hgo hend hall hallM hif hb hle htz hlz hlen hvl hil hra
        generalize sp.bad = bd at *
        go_wp2_with fail
        refine HSt.out.mono ?_
        rintro e W3 ⟨rfl, rfl⟩
        go_wp2_with fail
        refine (HEnd.out _ rfl).mono ?_
        rintro e W4 ⟨rfl, V4, hs4, ht4⟩
        have HB4 := Lib.hid (HBp.out.trans (HSp.out.toBelow ht4))
        obtain ⟨hm4, -⟩ := HMs.out.turn HAp.out ht4
        have HM4 := Lib.hid hm4
        clear hs4 ht4 hm4
        go_wp2_with fail
        go_loopw [20] (fun v20 wr => ∃ i : Nat, i ≤ Vs.length ∧ v20 = .int .i64 i ∧ Hid (Below W4.heap.size W4 wr)) (fun v20 _ => Vs.length - (RowKit.intOf v20).toNat)
        case atStart => exact ⟨0, Nat.zero_le _, rfl, Lib.hid (Below.refl _ _)⟩
        case round =>
          obtain ⟨i, hi2, rfl, HBw⟩ := hrel
          rename World => W5
          by_cases hlt : i < Vs.length
          · have hlt2 : i < VsW.length := by have := HLen.out; omega
            obtain ⟨x, hx⟩ : ∃ x, Vs[i]? = some x := ⟨_, List.getElem?_eq_getElem hlt⟩
            obtain ⟨y, hy⟩ : ∃ y, VsW[i]? = some y := ⟨_, List.getElem?_eq_getElem hlt2⟩
            have hxy : y.1 = x.1 := by
              have h1 : (VsW.map (·.1))[i]? = (Vs.map (·.1))[i]? := by rw [HAM.out]
              rw [List.getElem?_map, List.getElem?_map, hx, hy] at h1
              simpa using h1
            obtain ⟨gx, cx, hvx, hcx, hcellx, hfx, htx⟩ := (HM4.out.below HBw.out).get i x hx
            obtain ⟨gy, cy, hvy, hcy, hcelly, hfy, hty⟩ := (HMsW.out.below (HB4.out.trans (HBw.out.mono HB4.out.size))).get i y hy
            injection hvx with e1 _ e2
            subst e1 e2
            injection hvy with e1 _ e2
            subst e1 e2
            have hfit : x.1.Fit t.size := by
              have hm : x.1 ∈ allM s0 (bs t) := by rw [← HMapW.out, ← hxy]; exact List.mem_map_of_mem (List.mem_of_getElem? hy)
              have := go_msgs (bs t) s0 0 HOk0.out x.1 hm
              rw [HLn.out] at this
              exact this.mono (by omega)
            have hsum := hfit.sum
            have hsg := sumF_ge x.1.f
            have htz := HTu.out.1
            have hz : ∀ f ∈ x.1.f, f.1.length ≤ 1099511627776 := fun f hf => by have := sumF_mem x.1.f f hf; omega
            have hzz : ∀ f ∈ x.1.tr, f.1.length ≤ 1099511627776 := fun f hf => by have := hfit.trl.2 f hf; omega
            rw [hxy] at hcelly hfy hty
            have hdr : Below W5.heap.size W5 W5.drew := ⟨rfl, rfl, rfl, Nat.le_refl _, fun _ _ => rfl⟩
            have HSm := Lib.hid (msame_self x.1 x.2.1 x.2.2 y.2.1 y.2.2 W5.drew (isFlds_below hfx hdr) (isFlds_below hfy hdr) (isFlds_below htx hdr) (isFlds_below hty hdr) hz (by omega) hzz (by have := hfit.trl.1; omega))
            have HBwd := Lib.hid (show Below W4.heap.size W4 W5.drew from HBw.out.trans ⟨rfl, rfl, rfl, Nat.le_refl _, fun _ _ => rfl⟩)
            have a0 : W5.cell? ⟨gx, i * 8, none⟩ = _ := hcellx 0 _ rfl
            have a1 := hcellx 1 _ rfl
            have a2 := hcellx 2 _ rfl
            have a3 := hcellx 3 _ rfl
            have a4 := hcellx 4 _ rfl
            have a5 := hcellx 5 _ rfl
            have a6 := hcellx 6 _ rfl
            have a7 := hcellx 7 _ rfl
            have b0 : W5.cell? ⟨gy, i * 8, none⟩ = _ := hcelly 0 _ rfl
            have b1 := hcelly 1 _ rfl
            have b2 := hcelly 2 _ rfl
            have b3 := hcelly 3 _ rfl
            have b4 := hcelly 4 _ rfl
            have b5 := hcelly 5 _ rfl
            have b6 := hcelly 6 _ rfl
            have b7 := hcelly 7 _ rfl
            obtain ⟨av1, ac1, hva, -⟩ := hfx
            obtain ⟨av2, ac2, hvb, -⟩ := htx
            obtain ⟨av3, ac3, hvc, -⟩ := hfy
            obtain ⟨av4, ac4, hvd, -⟩ := hty
            rw [hva] at a5
            rw [hvb] at a7
            rw [hvc] at b5
            rw [hvd] at b7
            rw [hva, hvb, hvc, hvd] at HSm
            have q0 : (0 : Int) ≤ (i : Int) := by omega
            have q1 : (i : Int) < (Vs.length : Int) := by omega
            have q2 : (i : Int) < (VsW.length : Int) := by omega
            have HLt := Lib.hid hlt
            have hvbnd : (Vs.length : Int) ≤ 250 := by have := HLen.out; omega
            clear hi2 hlt hlt2 hx hy hxy hcx hcellx hcy hcelly hfit hsum hsg htz hz hzz hdr hva hvb hvc hvd HBw
            unfold msgL at HSm
            generalize x.1.f.length = n1 at *
            generalize x.1.tr.length = n2 at *
            generalize mkS x.1.m = x1 at *
            generalize mkS x.1.t = x2 at *
            generalize mkS x.1.r = x3 at *
            generalize mkS x.1.body = x4 at *
            generalize (x.1.st : Int) = y1 at *
            generalize (x.1.mi : Int) = y2 at *
            go_wp2_with fail
            go_still_tail 8, (by kernel_rfl)
            change wpList _ _ _ _ _ W5.drew
            generalize W5.drew = W2 at *
            go_wp2_with fail
            refine HSm.out.mono ?_
            rintro e W3 ⟨rfl, hb3⟩
            have HBw3 := Lib.hid (HBwd.out.trans (hb3.mono HBwd.out.size))
            clear hb3
            go_wp2_with fail
            exact ⟨⟨i + 1, by have := HLt.out; omega, by go_num, HBw3⟩, by have := HLt.out; simp [RowKit.intOf]; omega⟩
          · have q1 : ¬ (i : Int) < (Vs.length : Int) := by omega
            have HBz := Lib.hid (HB0.out.trans ((HB3.out.trans ((HB4.out.trans (HBw.out.mono HB4.out.size)).mono HB3.out.size)).mono HB0.out.size))
            go_wp2_with fail
            go_ret
            exact ⟨rfl, HBz.out⟩
      · have c2 : ((sp.bad : Int) == 0) = false := by simp [hb]
        have hq : sa = sp.bad := by rw [hall, end_bad hb]
        have lc : ((sp.bad : Int) != (sa : Int)) = false := by rw [hq]; simp
        have hcase : (at_ : Int) < (t.size : Int) ∨ ¬ (at_ : Int) < (t.size : Int) := Classical.em _
        have HB4 := HBp
        have HM4 := HMs
        clear hgo hend hall hallM hif hb hle htz hlz hlen hvl hil hra HEnd hq
        generalize sp.bad = bd at *
        rcases hcase with c1 | c1
        all_goals
          go_wp2_with fail
          first
            | (refine HSt.out.mono ?_
               rintro e W3 ⟨rfl, rfl⟩
               go_wp2_with fail
               refine HSt.out.mono ?_)
            | (refine HSt.out.mono ?_)
          rintro e W4 ⟨rfl, rfl⟩
          go_wp2_with fail
          go_loopw [20] (fun v20 wr => ∃ i : Nat, i ≤ Vs.length ∧ v20 = .int .i64 i ∧ Hid (Below W4.heap.size W4 wr)) (fun v20 _ => Vs.length - (RowKit.intOf v20).toNat)
          case atStart => exact ⟨0, Nat.zero_le _, rfl, Lib.hid (Below.refl _ _)⟩
          case round =>
            obtain ⟨i, hi2, rfl, HBw⟩ := hrel
            rename World => W5
            by_cases hlt : i < Vs.length
            · have hlt2 : i < VsW.length := by have := HLen.out; omega
              obtain ⟨x, hx⟩ : ∃ x, Vs[i]? = some x := ⟨_, List.getElem?_eq_getElem hlt⟩
              obtain ⟨y, hy⟩ : ∃ y, VsW[i]? = some y := ⟨_, List.getElem?_eq_getElem hlt2⟩
              have hxy : y.1 = x.1 := by
                have h1 : (VsW.map (·.1))[i]? = (Vs.map (·.1))[i]? := by rw [HAM.out]
                rw [List.getElem?_map, List.getElem?_map, hx, hy] at h1
                simpa using h1
              obtain ⟨gx, cx, hvx, hcx, hcellx, hfx, htx⟩ := (HM4.out.below HBw.out).get i x hx
              obtain ⟨gy, cy, hvy, hcy, hcelly, hfy, hty⟩ := (HMsW.out.below (HB4.out.trans (HBw.out.mono HB4.out.size))).get i y hy
              injection hvx with e1 _ e2
              subst e1 e2
              injection hvy with e1 _ e2
              subst e1 e2
              have hfit : x.1.Fit t.size := by
                have hm : x.1 ∈ allM s0 (bs t) := by rw [← HMapW.out, ← hxy]; exact List.mem_map_of_mem (List.mem_of_getElem? hy)
                have := go_msgs (bs t) s0 0 HOk0.out x.1 hm
                rw [HLn.out] at this
                exact this.mono (by omega)
              have hsum := hfit.sum
              have hsg := sumF_ge x.1.f
              have htz := HTu.out.1
              have hz : ∀ f ∈ x.1.f, f.1.length ≤ 1099511627776 := fun f hf => by have := sumF_mem x.1.f f hf; omega
              have hzz : ∀ f ∈ x.1.tr, f.1.length ≤ 1099511627776 := fun f hf => by have := hfit.trl.2 f hf; omega
              rw [hxy] at hcelly hfy hty
              have hdr : Below W5.heap.size W5 W5.drew := ⟨rfl, rfl, rfl, Nat.le_refl _, fun _ _ => rfl⟩
              have HSm := Lib.hid (msame_self x.1 x.2.1 x.2.2 y.2.1 y.2.2 W5.drew (isFlds_below hfx hdr) (isFlds_below hfy hdr) (isFlds_below htx hdr) (isFlds_below hty hdr) hz (by omega) hzz (by have := hfit.trl.1; omega))
              have HBwd := Lib.hid (show Below W4.heap.size W4 W5.drew from HBw.out.trans ⟨rfl, rfl, rfl, Nat.le_refl _, fun _ _ => rfl⟩)
              have a0 : W5.cell? ⟨gx, i * 8, none⟩ = _ := hcellx 0 _ rfl
              have a1 := hcellx 1 _ rfl
              have a2 := hcellx 2 _ rfl
              have a3 := hcellx 3 _ rfl
              have a4 := hcellx 4 _ rfl
              have a5 := hcellx 5 _ rfl
              have a6 := hcellx 6 _ rfl
              have a7 := hcellx 7 _ rfl
              have b0 : W5.cell? ⟨gy, i * 8, none⟩ = _ := hcelly 0 _ rfl
              have b1 := hcelly 1 _ rfl
              have b2 := hcelly 2 _ rfl
              have b3 := hcelly 3 _ rfl
              have b4 := hcelly 4 _ rfl
              have b5 := hcelly 5 _ rfl
              have b6 := hcelly 6 _ rfl
              have b7 := hcelly 7 _ rfl
              obtain ⟨av1, ac1, hva, -⟩ := hfx
              obtain ⟨av2, ac2, hvb, -⟩ := htx
              obtain ⟨av3, ac3, hvc, -⟩ := hfy
              obtain ⟨av4, ac4, hvd, -⟩ := hty
              rw [hva] at a5
              rw [hvb] at a7
              rw [hvc] at b5
              rw [hvd] at b7
              rw [hva, hvb, hvc, hvd] at HSm
              have q0 : (0 : Int) ≤ (i : Int) := by omega
              have q1 : (i : Int) < (Vs.length : Int) := by omega
              have q2 : (i : Int) < (VsW.length : Int) := by omega
              have HLt := Lib.hid hlt
              have hvbnd : (Vs.length : Int) ≤ 250 := by have := HLen.out; omega
              clear hi2 hlt hlt2 hx hy hxy hcx hcellx hcy hcelly hfit hsum hsg htz hz hzz hdr hva hvb hvc hvd HBw
              unfold msgL at HSm
              generalize x.1.f.length = n1 at *
              generalize x.1.tr.length = n2 at *
              generalize mkS x.1.m = x1 at *
              generalize mkS x.1.t = x2 at *
              generalize mkS x.1.r = x3 at *
              generalize mkS x.1.body = x4 at *
              generalize (x.1.st : Int) = y1 at *
              generalize (x.1.mi : Int) = y2 at *
              go_wp2_with fail
              go_still_tail 8, (by kernel_rfl)
              change wpList _ _ _ _ _ W5.drew
              generalize W5.drew = W2 at *
              go_wp2_with fail
              refine HSm.out.mono ?_
              rintro e W3 ⟨rfl, hb3⟩
              have HBw3 := Lib.hid (HBwd.out.trans (hb3.mono HBwd.out.size))
              clear hb3
              go_wp2_with fail
              exact ⟨⟨i + 1, by have := HLt.out; omega, by go_num, HBw3⟩, by have := HLt.out; simp [RowKit.intOf]; omega⟩
            · have q1 : ¬ (i : Int) < (Vs.length : Int) := by omega
              have HBz := Lib.hid (HB0.out.trans ((HB3.out.trans ((HB4.out.trans (HBw.out.mono HB4.out.size)).mono HB3.out.size)).mono HB0.out.size))
              go_wp2_with fail
              go_ret
              exact ⟨rfl, HBz.out⟩
theorem mcuts_any (L H C M : Int) (t : ByteArray) (v : Value) (l : List Int) (w : World) (hs : IsInts w v l) (hv : ErrV w.heap.size w) (hL : L ≤ 9223372036854775807) (hX : H ≤ 9223372036854775807) (hC : C ≤ 9223372036854775807) (hM : M ≤ 9223372036854775807) :
    Calls Tryz.prog 3 #[.agg #[.int .i64 L, .int .i64 H, .int .i64 C, .int .i64 M], .string t, v] w (Yes2 w) := by
  by_cases h1 : t.size ≤ 250
  · by_cases h2 : l.length ≤ 20
    · exact mcuts_main L H C M t v l w hs hv h1 h2 hL hX hC hM
    · exact mcuts_big L H C M t v l w hs hv (.inr ⟨h1, by omega⟩)
  · exact mcuts_big L H C M t v l w hs hv (.inl (by omega))
end Tk
end Go.Proofs.YtomhpnkpmeindaaGreatDoor
