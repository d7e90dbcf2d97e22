/- EtagCalls: tags are read, written and compared as the document says. -/
import Derived.Test.YtajmheblbnodjaaGreatDoorQa
import Derived.Test.YtajmheblbnodjaaGreatDoorQJ
import Derived.Deep.Cut
namespace Go.Proofs.YtajmheblbnodjaaGreatDoor
open Go.RowKit
namespace Tk


set_option maxHeartbeats 8000000 in
set_option maxRecDepth 100000 in
theorem ec_out (S : ByteArray) (ak : Bool) (av : Bs) (bk : Bool) (bv : Bs) (c : Ck) (vl vf : Value) (L : List Bs) (F : List (Bs × Bs)) (now : Int) (w : World) (hs : IsStrs w vl L) (hf : IsFlds w vf F) (hN : NamH w) (LT LF : Bool)
    (HLv : Hid (∀ W : World, Calls Tryz.prog 46 #[] W fun e w' => e = .returned (.bool true) ∧ Below W.heap.size W w'))
    (HLt : Hid (∀ W : World, IsStrs W vl L → Calls Tryz.prog 32 #[vl, .int .i64 20, .int .i64 600] W fun e w' => e = .returned (.bool LT) ∧ W = w'))
    (HLf : Hid (∀ W : World, IsFlds W vf F → Calls Tryz.prog 58 #[vf] W fun e w' => e = .returned (.bool LF) ∧ Below W.heap.size W w'))
    (hg : ¬(S.size ≤ 200 ∧ LT = true ∧ (mkS av).size ≤ 100 ∧ (mkS bv).size ≤ 100 ∧ (mkS c.v).size ≤ 100 ∧ LF = true)) :
    Calls Tryz.prog 8 #[.string S, vl, .agg #[.bool ak, .string (mkS av)], .agg #[.bool bk, .string (mkS bv)], vf, .agg #[.bool c.w, .string (mkS c.v), .bool c.h, .int .i64 c.a, .bool c.b], .int .i64 now] w fun e w' => e = .returned (.bool true) ∧ Below w.heap.size w w' := by
  have HG := Lib.hid hg
  clear hg
  have hH := holdC_new w (ak, av) (bk, bv) c vl vf L F hs hf hN
  have HH := Lib.hid hH
  clear hH hs hf hN
  unfold ckA at HH
  simp only at HH
  go_enter Tryz.func8, Tryz.ntmps8
  go_wp2_with fail
  generalize ((w.alloc (.cells #[.bool ak, .string (mkS av)] 81)).alloc (.cells #[.bool bk, .string (mkS bv)] 81)).alloc (.cells #[.bool c.w, .string (mkS c.v), .bool c.h, .int .i64 c.a, .bool c.b] 89) = W0 at *
  refine (HLv.out _).mono ?_
  rintro e w1 ⟨rfl, hb⟩
  have HH1 := Lib.hid (HH.out.later hb)
  clear hb HH
  have c9 : w1.cell? ⟨w.heap.size, 1, none⟩ = some (.string (mkS av)) := HH1.out.b0.cell 1 _ rfl
  have c10 : w1.cell? ⟨w.heap.size + 1, 1, none⟩ = some (.string (mkS bv)) := HH1.out.b1.cell 1 _ rfl
  have c12 : w1.cell? ⟨w.heap.size + 1 + 1, 1, none⟩ = some (.string (mkS c.v)) := HH1.out.b2.cell 1 _ rfl
  by_cases h1 : (200 : Int) < (S.size : Int)
  · go_wp2_with fail
    go_ret
    exact ⟨rfl, HH1.out.bl⟩
  cases hlt : LT
  · subst hlt
    go_wp2_with fail
    refine (HLt.out w1 HH1.out.sl).mono ?_
    rintro e w2 ⟨rfl, rfl⟩
    go_wp2_with fail
    go_ret
    exact ⟨rfl, HH1.out.bl⟩
  subst hlt
  by_cases h2 : (100 : Int) < ((mkS av).size : Int)
  · go_wp2_with fail
    refine (HLt.out w1 HH1.out.sl).mono ?_
    rintro e w2 ⟨rfl, rfl⟩
    go_wp2_with fail
    go_ret
    exact ⟨rfl, HH1.out.bl⟩
  by_cases h3 : (100 : Int) < ((mkS bv).size : Int)
  · go_wp2_with fail
    refine (HLt.out w1 HH1.out.sl).mono ?_
    rintro e w2 ⟨rfl, rfl⟩
    go_wp2_with fail
    go_ret
    exact ⟨rfl, HH1.out.bl⟩
  by_cases h4 : (100 : Int) < ((mkS c.v).size : Int)
  · go_wp2_with fail
    refine (HLt.out w1 HH1.out.sl).mono ?_
    rintro e w2 ⟨rfl, rfl⟩
    go_wp2_with fail
    go_ret
    exact ⟨rfl, HH1.out.bl⟩
  cases hlf : LF
  · subst hlf
    go_wp2_with fail
    refine (HLt.out w1 HH1.out.sl).mono ?_
    rintro e w2 ⟨rfl, rfl⟩
    go_wp2_with fail
    refine (HLf.out w1 HH1.out.sf).mono ?_
    rintro e w2 ⟨rfl, hb⟩
    have HB := Lib.hid (HH1.out.later hb).bl
    clear hb
    go_wp2_with fail
    go_ret
    exact ⟨rfl, HB.out⟩
  · exact absurd ⟨by omega, rfl, by omega, by omega, by omega, hlf⟩ HG.out

/-- and what was read: two tags' boxes, two lists of tags -/
structure HoldD (w : World) (g : Nat) (a b : Tg) (c : Ck) (vl vf : Value) (L : List Bs) (F : List (Bs × Bs)) (g1 g2 : Nat) (q : Tg) (v1 v2 : Value) (G : List Tg) (Wz : World) : Prop where
  h : HoldC w g a b c vl vf L F Wz
  d0 : Bx Wz g1 81 #[.bool q.1, .string (mkS q.2)]
  d1 : Bx Wz g2 81 #[.bool q.1, .string (mkS q.2)]
  t0 : IsTgs Wz v1 G
  t1 : IsTgs Wz v2 G
theorem HoldD.later {w W W' : World} {g : Nat} {a b : Tg} {c : Ck} {vl vf : Value} {L : List Bs} {F : List (Bs × Bs)} {g1 g2 : Nat} {q : Tg} {v1 v2 : Value} {G : List Tg} (h : HoldD w g a b c vl vf L F g1 g2 q v1 v2 G W) (hb : Below W.heap.size W W') : HoldD w g a b c vl vf L F g1 g2 q v1 v2 G W' :=
  ⟨h.h.later hb, h.d0.later hb, h.d1.later hb, isTgs_below h.t0 hb, isTgs_below h.t1 hb⟩
theorem below_allocE (w : World) (o : Obj) : Below w.heap.size w (w.alloc o) := (Below.refl _ _).alloc (Nat.le_refl _) _


set_option maxHeartbeats 32000000 in
set_option maxRecDepth 100000 in
theorem ec_in (S : ByteArray) (ak : Bool) (av : Bs) (bk : Bool) (bv : Bs) (c : Ck) (vl vf : Value) (L : List Bs) (F : List (Bs × Bs)) (now : Int) (w : World) (hs : IsStrs w vl L) (hf : IsFlds w vf F) (hN : NamH w) (gk : Bool) (gv : Bs) (ge : Int) (X : ByteArray) (te : Int) (ts : Bool) (tE : Int) (G : List Tg) (st wk un : Bool) (O : Ck) (K : List (Bs × Bs))
    (HLv : Hid (∀ W : World, Calls Tryz.prog 46 #[] W fun e w' => e = .returned (.bool true) ∧ Below W.heap.size W w'))
    (HLt : Hid (∀ W : World, IsStrs W vl L → Calls Tryz.prog 32 #[vl, .int .i64 20, .int .i64 600] W fun e w' => e = .returned (.bool true) ∧ W = w'))
    (HLf : Hid (∀ W : World, IsFlds W vf F → Calls Tryz.prog 58 #[vf] W fun e w' => e = .returned (.bool true) ∧ Below W.heap.size W w'))
    (HPa : Hid (∀ W : World, Calls Tryz.prog 47 #[.string S] W fun e w' => e = .returned (.tuple #[.agg #[.bool gk, .string (mkS gv)], .int .i64 ge]) ∧ Below W.heap.size W w'))
    (HPr : Hid (∀ W : World, Calls Tryz.prog 59 #[.string S] W fun e w' => e = .returned (.tuple #[.agg #[.bool gk, .string (mkS gv)], .int .i64 ge]) ∧ Below W.heap.size W w'))
    (HTx : Hid (∀ W : World, Calls Tryz.prog 48 #[.agg #[.bool ak, .string (mkS av)]] W fun e w' => e = .returned (.tuple #[.string X, .int .i64 te]) ∧ Below W.heap.size W w'))
    (HTr : Hid (∀ W : World, Calls Tryz.prog 60 #[.agg #[.bool ak, .string (mkS av)]] W fun e w' => e = .returned (.tuple #[.string X, .int .i64 te]) ∧ Below W.heap.size W w'))
    (HTa : Hid (∀ W : World, IsStrs W vl L → Calls Tryz.prog 49 #[vl] W fun e w' => ∃ v', e = .returned (.tuple #[v', .bool ts, .int .i64 tE]) ∧ IsTgs w' v' G ∧ Below W.heap.size W w'))
    (HTb : Hid (∀ W : World, IsStrs W vl L → Calls Tryz.prog 61 #[vl] W fun e w' => ∃ v', e = .returned (.tuple #[v', .bool ts, .int .i64 tE]) ∧ IsTgs w' v' G ∧ Below W.heap.size W w'))
    (HSm : Hid (∀ (v1 v2 : Value) (W : World), IsTgs W v1 G → IsTgs W v2 G → Calls Tryz.prog 62 #[v1, v2] W fun e w' => e = .returned (.bool true) ∧ Below W.heap.size W w'))
    (HSt : Hid (∀ W : World, Calls Tryz.prog 56 #[.agg #[.bool ak, .string (mkS av)], .agg #[.bool bk, .string (mkS bv)]] W fun e w' => e = .returned (.bool st) ∧ Below W.heap.size W w'))
    (HSr : Hid (∀ W : World, Calls Tryz.prog 63 #[.agg #[.bool ak, .string (mkS av)], .agg #[.bool bk, .string (mkS bv)]] W fun e w' => e = .returned (.bool st) ∧ Below W.heap.size W w'))
    (HWk : Hid (∀ W : World, Calls Tryz.prog 57 #[.agg #[.bool ak, .string (mkS av)], .agg #[.bool bk, .string (mkS bv)]] W fun e w' => e = .returned (.bool wk) ∧ Below W.heap.size W w'))
    (HWr : Hid (∀ W : World, Calls Tryz.prog 64 #[.agg #[.bool ak, .string (mkS av)], .agg #[.bool bk, .string (mkS bv)]] W fun e w' => e = .returned (.bool wk) ∧ Below W.heap.size W w'))
    (HOf : Hid (∀ W : World, NamH W → IsFlds W vf F → Calls Tryz.prog 50 #[vf, .int .i64 now] W fun e w' => e = .returned (.agg (ckA O)) ∧ Below W.heap.size W w'))
    (HOr : Hid (∀ W : World, IsFlds W vf F → Calls Tryz.prog 65 #[vf, .int .i64 now] W fun e w' => e = .returned (.agg (ckA O)) ∧ Below W.heap.size W w'))
    (HUn : Hid (∀ W : World, NamH W → IsFlds W vf F → Calls Tryz.prog 53 #[vf, .agg #[.bool c.w, .string (mkS c.v), .bool c.h, .int .i64 c.a, .bool c.b], .int .i64 now] W fun e w' => e = .returned (.bool un) ∧ Below W.heap.size W w'))
    (HUr : Hid (∀ W : World, IsFlds W vf F → Calls Tryz.prog 66 #[vf, .agg #[.bool c.w, .string (mkS c.v), .bool c.h, .int .i64 c.a, .bool c.b], .int .i64 now] W fun e w' => e = .returned (.bool un) ∧ Below W.heap.size W w'))
    (HOw : Hid (∀ W : World, IsFlds W vf F → Calls Tryz.prog 12 #[vf] W fun e w' => ∃ v', e = .returned v' ∧ IsFlds w' v' F ∧ (∀ n c, v' = .slice none n c → c = 0) ∧ Below W.heap.size W w'))
    (HAk : Hid (∀ (v : Value) (W : World), NamH W → IsFlds W v F → (∀ n c, v = .slice none n c → c = 0) → Calls Tryz.prog 52 #[v, .agg #[.bool c.w, .string (mkS c.v), .bool c.h, .int .i64 c.a, .bool c.b]] W fun e w' => ∃ v', e = .returned v' ∧ IsFlds w' v' K ∧ Below W.heap.size W w'))
    (HAr : Hid (∀ W : World, IsFlds W vf F → Calls Tryz.prog 68 #[vf, .agg #[.bool c.w, .string (mkS c.v), .bool c.h, .int .i64 c.a, .bool c.b]] W fun e w' => ∃ v', e = .returned v' ∧ IsFlds w' v' K ∧ Below W.heap.size W w'))
    (HSf : Hid (∀ (v1 v2 : Value) (W : World), IsFlds W v1 K → IsFlds W v2 K → Calls Tryz.prog 67 #[v1, v2] W fun e w' => e = .returned (.bool true) ∧ Below W.heap.size W w'))
    (y1 : S.size ≤ 200) (y2 : (mkS av).size ≤ 100) (y3 : (mkS bv).size ≤ 100) (y4 : (mkS c.v).size ≤ 100) :
    Calls Tryz.prog 8 #[.string S, vl, .agg #[.bool ak, .string (mkS av)], .agg #[.bool bk, .string (mkS bv)], vf, .agg #[.bool c.w, .string (mkS c.v), .bool c.h, .int .i64 c.a, .bool c.b], .int .i64 now] w fun e w' => e = .returned (.bool true) ∧ Below w.heap.size w w' := by
  have hH := holdC_new w (ak, av) (bk, bv) c vl vf L F hs hf hN
  have HH := Lib.hid hH
  clear hH hs hf hN
  unfold ckA at HH
  simp only at HH
  go_enter Tryz.func8, Tryz.ntmps8
  go_wp2_with fail
  generalize ((w.alloc (.cells #[.bool ak, .string (mkS av)] 81)).alloc (.cells #[.bool bk, .string (mkS bv)] 81)).alloc (.cells #[.bool c.w, .string (mkS c.v), .bool c.h, .int .i64 c.a, .bool c.b] 89) = W0 at *
  refine (HLv.out _).mono ?_
  rintro e w1 ⟨rfl, hb⟩
  have HH1 := Lib.hid (HH.out.later hb)
  clear hb HH
  have c9 : w1.cell? ⟨w.heap.size, 1, none⟩ = some (.string (mkS av)) := HH1.out.b0.cell 1 _ rfl
  have c10 : w1.cell? ⟨w.heap.size + 1, 1, none⟩ = some (.string (mkS bv)) := HH1.out.b1.cell 1 _ rfl
  have c12 : w1.cell? ⟨w.heap.size + 1 + 1, 1, none⟩ = some (.string (mkS c.v)) := HH1.out.b2.cell 1 _ rfl
  clear HLv
  have h1 : ¬ (200 : Int) < (S.size : Int) := by omega
  have h2 : ¬ (100 : Int) < ((mkS av).size : Int) := by omega
  have h3 : ¬ (100 : Int) < ((mkS bv).size : Int) := by omega
  have h4 : ¬ (100 : Int) < ((mkS c.v).size : Int) := by omega
  clear y1 y2 y3 y4
  go_wp2_with fail
  refine (HLt.out w1 HH1.out.sl).mono ?_
  rintro e w2 ⟨rfl, rfl⟩
  go_wp2_with fail
  refine (HLf.out w1 HH1.out.sf).mono ?_
  rintro e w2 ⟨rfl, hb⟩
  have HH2 := Lib.hid (HH1.out.later hb)
  clear hb HH1 c9 c10 c12 HLt HLf
  go_wp2_with fail
  refine (HPa.out _).mono ?_
  rintro e w3 ⟨rfl, hb⟩
  have HH3 := Lib.hid (HH2.out.later hb)
  clear hb HH2 HPa h1 h2 h3 h4
  go_wp2_with (refine wpList_storeE rfl _ _ _ rfl w3.heap.size _ #[.bool false, .string ⟨#[]⟩] #[.bool gk, .string (mkS gv)] rfl rfl (Bx.new w3 _ _) (by kernel_rfl) rfl rfl ?_)
  have HD3 := Lib.hid (Bx.new w3 81 #[.bool gk, .string (mkS gv)])
  have HH4 := Lib.hid (HH3.out.later (below_allocE w3 (.cells #[.bool gk, .string (mkS gv)] 81)))
  generalize w3.alloc (.cells #[.bool gk, .string (mkS gv)] 81) = w4 at *
  generalize w3.heap.size = g1 at *
  clear HH3
  refine (HPr.out _).mono ?_
  rintro e w5 ⟨rfl, hb⟩
  have HH5 := Lib.hid (HH4.out.later hb)
  have HD5 := Lib.hid (HD3.out.later hb)
  clear hb HH4 HPr HD3
  have HE7 := Lib.hid (Bx.new w5 81 #[.bool gk, .string (mkS gv)])
  have HD7 := Lib.hid (HD5.out.later (below_allocE w5 (.cells #[.bool gk, .string (mkS gv)] 81)))
  have HH7 := Lib.hid (HH5.out.later (below_allocE w5 (.cells #[.bool gk, .string (mkS gv)] 81)))
  go_upto_region 7 with (refine wpList_storeE rfl _ _ _ rfl w5.heap.size _ #[.bool false, .string ⟨#[]⟩] #[.bool gk, .string (mkS gv)] rfl rfl (Bx.new w5 _ _) (by kernel_rfl) rfl rfl ?_)
  generalize w5.alloc (.cells #[.bool gk, .string (mkS gv)] 81) = w6 at *
  generalize w5.heap.size = g2 at *
  clear HH5 HD5
  go_wp2_with (refine wplE_val rfl (.agg #[.bool ak, .string (mkS av)]) (exec_loadE _ _ rfl w.heap.size _ #[.bool ak, .string (mkS av)] (0, 0) _ rfl HH7.out.b0 Tryz.underlying81 rfl (by kernel_rfl)) ?_)
  refine (HTx.out _).mono ?_
  rintro e w7 ⟨rfl, hb⟩
  have HH8 := Lib.hid (HH7.out.later hb)
  have HD8 := Lib.hid (HD7.out.later hb)
  have HE8 := Lib.hid (HE7.out.later hb)
  clear hb HH7 HD7 HE7 HTx
  go_wp2_with (refine wplE_val rfl (.agg #[.bool ak, .string (mkS av)]) (exec_loadE _ _ rfl w.heap.size _ #[.bool ak, .string (mkS av)] (0, 0) _ rfl HH8.out.b0 Tryz.underlying81 rfl (by kernel_rfl)) ?_)
  refine (HTr.out _).mono ?_
  rintro e w8 ⟨rfl, hb⟩
  have HH9 := Lib.hid (HH8.out.later hb)
  have HD9 := Lib.hid (HD8.out.later hb)
  have HE9 := Lib.hid (HE8.out.later hb)
  clear hb HH8 HD8 HE8 HTr
  go_wp2_with fail
  refine (HTa.out _ HH9.out.sl).mono ?_
  rintro e w9 ⟨vn, rfl, hn, hb⟩
  have HHa := Lib.hid (HH9.out.later hb)
  have HDa := Lib.hid (HD9.out.later hb)
  have HEa := Lib.hid (HE9.out.later hb)
  have HNa := Lib.hid hn
  clear hb HH9 HD9 HE9 HTa hn
  go_wp2_with fail
  refine (HTb.out _ HHa.out.sl).mono ?_
  rintro e w10 ⟨vq, rfl, hq, hb⟩
  have HI := Lib.hid (show HoldD w w.heap.size (ak, av) (bk, bv) c vl vf L F g1 g2 (gk, gv) vn vq G w10 from ⟨HHa.out.later hb, HDa.out.later hb, HEa.out.later hb, isTgs_below HNa.out hb, hq⟩)
  clear hb HHa HDa HEa HNa HTb hq
  go_upto_region 11 with fail
  have hHeld0 : (fun Wz : World => HoldD w w.heap.size (ak, av) (bk, bv) c vl vf L F g1 g2 (gk, gv) vn vq G Wz) w10.drew := HI.out.later (Below.refl _ _).drew
  clear HI
  simp only [List.append_eq, List.cons_append, List.nil_append]
  refine wp_region_held_drew (S := (fun Wz : World => HoldD w w.heap.size (ak, av) (bk, bv) c vl vf L F g1 g2 (gk, gv) vn vq G Wz)) (by kernel_rfl) hHeld0 (fun hHeld => ?_)
  refine wpAnyH_take (i := 0) (v := .agg #[.bool gk, .string (mkS gv)]) rfl (by kernel_rfl) (by kernel_rfl) (by kernel_rfl) (fun _ _ _ h => h) (Or.inl ⟨by kernel_rfl, ?_⟩) (by assumption) ?_
  case refine_1 => exact fun Wz hSw => exec_loadE _ _ (by rfl) _ _ #[.bool gk, .string (mkS gv)] (0, 0) _ (by rfl) hSw.d0 Tryz.underlying81 rfl (by kernel_rfl)
  try simp only [Act.put, List.getElem_toArray, List.getElem_cons_zero, List.setIfInBounds_toArray, List.set_cons_zero, List.set_cons_succ]
  refine wpAnyH_take (i := 1) (v := .agg #[.bool gk, .string (mkS gv)]) rfl (by kernel_rfl) (by kernel_rfl) (by kernel_rfl) (fun _ _ _ h => h) (Or.inl ⟨by kernel_rfl, ?_⟩) (by assumption) ?_
  case refine_1 => exact fun Wz hSw => exec_loadE _ _ (by rfl) _ _ #[.bool gk, .string (mkS gv)] (0, 0) _ (by rfl) hSw.d1 Tryz.underlying81 rfl (by kernel_rfl)
  try simp only [Act.put, List.getElem_toArray, List.getElem_cons_succ, List.getElem_cons_zero, List.setIfInBounds_toArray, List.set_cons_zero, List.set_cons_succ]
  refine wpAnyH_take (i := 2) (v := .bool true) rfl (by kernel_rfl) (by kernel_rfl) (by kernel_rfl) (fun _ _ _ h => h) (Or.inl ⟨by kernel_rfl, ?_⟩) (by assumption) ?_
  case refine_1 => exact fun Wz hSw => exec_eqlE _ _ (by rfl) #[.bool gk, .string (mkS gv)] #[.bool gk, .string (mkS gv)] true (by rfl) (by rfl) (tag_eql Wz gk (mkS gv)) guardT
  try simp only [Act.put, List.getElem_toArray, List.getElem_cons_succ, List.getElem_cons_zero, List.setIfInBounds_toArray, List.set_cons_zero, List.set_cons_succ]
  refine wpAnyH_take (i := 3) (v := .bool true) rfl (by kernel_rfl) (by kernel_rfl) (by kernel_rfl) (fun _ _ _ h => h) (Or.inl ⟨by kernel_rfl, ?_⟩) (by assumption) ?_
  case refine_1 => (intro Wz hSw; go_simp; try with_reducible rfl)
  try simp only [Act.put, List.getElem_toArray, List.getElem_cons_succ, List.getElem_cons_zero, List.setIfInBounds_toArray, List.set_cons_zero, List.set_cons_succ]
  refine wpAnyH_take (i := 4) (v := .int .i64 ge) rfl (by kernel_rfl) (by kernel_rfl) (by kernel_rfl) (fun _ _ _ h => h) (Or.inl ⟨by kernel_rfl, ?_⟩) (by assumption) ?_
  case refine_1 => (intro Wz hSw; go_simp; try with_reducible rfl)
  try simp only [Act.put, List.getElem_toArray, List.getElem_cons_succ, List.getElem_cons_zero, List.setIfInBounds_toArray, List.set_cons_zero, List.set_cons_succ]
  refine wpAnyH_take (i := 5) (v := .int .i64 ge) rfl (by kernel_rfl) (by kernel_rfl) (by kernel_rfl) (fun _ _ _ h => h) (Or.inl ⟨by kernel_rfl, ?_⟩) (by assumption) ?_
  case refine_1 => (intro Wz hSw; go_simp; try with_reducible rfl)
  try simp only [Act.put, List.getElem_toArray, List.getElem_cons_succ, List.getElem_cons_zero, List.setIfInBounds_toArray, List.set_cons_zero, List.set_cons_succ]
  refine wpAnyH_take (i := 6) (v := .bool true) rfl (by kernel_rfl) (by kernel_rfl) (by kernel_rfl) (fun _ _ _ h => h) (Or.inl ⟨by kernel_rfl, ?_⟩) (by assumption) ?_
  case refine_1 => (intro Wz hSw; go_simp; try with_reducible rfl)
  try simp only [Act.put, List.getElem_toArray, List.getElem_cons_succ, List.getElem_cons_zero, List.setIfInBounds_toArray, List.set_cons_zero, List.set_cons_succ]
  refine wpAnyH_take (i := 7) (v := .bool true) rfl (by kernel_rfl) (by kernel_rfl) (by kernel_rfl) (fun _ _ _ h => h) (Or.inl ⟨by kernel_rfl, ?_⟩) (by assumption) ?_
  case refine_1 => (intro Wz hSw; go_simp; try with_reducible rfl)
  try simp only [Act.put, List.getElem_toArray, List.getElem_cons_succ, List.getElem_cons_zero, List.setIfInBounds_toArray, List.set_cons_zero, List.set_cons_succ]
  refine wpAnyH_take (i := 8) (v := .bool true) rfl (by kernel_rfl) (by kernel_rfl) (by kernel_rfl) (fun _ _ _ h => h) (Or.inl ⟨by kernel_rfl, ?_⟩) (by assumption) ?_
  case refine_1 => (intro Wz hSw; go_simp; try with_reducible rfl)
  try simp only [Act.put, List.getElem_toArray, List.getElem_cons_succ, List.getElem_cons_zero, List.setIfInBounds_toArray, List.set_cons_zero, List.set_cons_succ]
  refine wpAnyH_take (i := 9) (v := .string X) rfl (by kernel_rfl) (by kernel_rfl) (by kernel_rfl) (fun _ _ _ h => h) (Or.inl ⟨by kernel_rfl, ?_⟩) (by assumption) ?_
  case refine_1 => (intro Wz hSw; go_simp; try with_reducible rfl)
  try simp only [Act.put, List.getElem_toArray, List.getElem_cons_succ, List.getElem_cons_zero, List.setIfInBounds_toArray, List.set_cons_zero, List.set_cons_succ]
  refine wpAnyH_take (i := 10) (v := .string X) rfl (by kernel_rfl) (by kernel_rfl) (by kernel_rfl) (fun _ _ _ h => h) (Or.inl ⟨by kernel_rfl, ?_⟩) (by assumption) ?_
  case refine_1 => (intro Wz hSw; go_simp; try with_reducible rfl)
  try simp only [Act.put, List.getElem_toArray, List.getElem_cons_succ, List.getElem_cons_zero, List.setIfInBounds_toArray, List.set_cons_zero, List.set_cons_succ]
  refine wpAnyH_take (i := 11) (v := .bool true) rfl (by kernel_rfl) (by kernel_rfl) (by kernel_rfl) (fun _ _ _ h => h) (Or.inl ⟨by kernel_rfl, ?_⟩) (by assumption) ?_
  case refine_1 => (intro Wz hSw; go_simp; try with_reducible rfl)
  try simp only [Act.put, List.getElem_toArray, List.getElem_cons_succ, List.getElem_cons_zero, List.setIfInBounds_toArray, List.set_cons_zero, List.set_cons_succ]
  refine wpAnyH_take (i := 12) (v := .bool true) rfl (by kernel_rfl) (by kernel_rfl) (by kernel_rfl) (fun _ _ _ h => h) (Or.inl ⟨by kernel_rfl, ?_⟩) (by assumption) ?_
  case refine_1 => (intro Wz hSw; go_simp; try with_reducible rfl)
  try simp only [Act.put, List.getElem_toArray, List.getElem_cons_succ, List.getElem_cons_zero, List.setIfInBounds_toArray, List.set_cons_zero, List.set_cons_succ]
  refine wpAnyH_take (i := 13) (v := .bool true) rfl (by kernel_rfl) (by kernel_rfl) (by kernel_rfl) (fun _ _ _ h => h) (Or.inl ⟨by kernel_rfl, ?_⟩) (by assumption) ?_
  case refine_1 => (intro Wz hSw; go_simp; try with_reducible rfl)
  try simp only [Act.put, List.getElem_toArray, List.getElem_cons_succ, List.getElem_cons_zero, List.setIfInBounds_toArray, List.set_cons_zero, List.set_cons_succ]
  refine wpAnyH_take (i := 14) (v := .int .i64 te) rfl (by kernel_rfl) (by kernel_rfl) (by kernel_rfl) (fun _ _ _ h => h) (Or.inl ⟨by kernel_rfl, ?_⟩) (by assumption) ?_
  case refine_1 => (intro Wz hSw; go_simp; try with_reducible rfl)
  try simp only [Act.put, List.getElem_toArray, List.getElem_cons_succ, List.getElem_cons_zero, List.setIfInBounds_toArray, List.set_cons_zero, List.set_cons_succ]
  refine wpAnyH_take (i := 15) (v := .int .i64 te) rfl (by kernel_rfl) (by kernel_rfl) (by kernel_rfl) (fun _ _ _ h => h) (Or.inl ⟨by kernel_rfl, ?_⟩) (by assumption) ?_
  case refine_1 => (intro Wz hSw; go_simp; try with_reducible rfl)
  try simp only [Act.put, List.getElem_toArray, List.getElem_cons_succ, List.getElem_cons_zero, List.setIfInBounds_toArray, List.set_cons_zero, List.set_cons_succ]
  refine wpAnyH_take (i := 16) (v := .bool true) rfl (by kernel_rfl) (by kernel_rfl) (by kernel_rfl) (fun _ _ _ h => h) (Or.inl ⟨by kernel_rfl, ?_⟩) (by assumption) ?_
  case refine_1 => (intro Wz hSw; go_simp; try with_reducible rfl)
  try simp only [Act.put, List.getElem_toArray, List.getElem_cons_succ, List.getElem_cons_zero, List.setIfInBounds_toArray, List.set_cons_zero, List.set_cons_succ]
  refine wpAnyH_take (i := 17) (v := .bool true) rfl (by kernel_rfl) (by kernel_rfl) (by kernel_rfl) (fun _ _ _ h => h) (Or.inl ⟨by kernel_rfl, ?_⟩) (by assumption) ?_
  case refine_1 => (intro Wz hSw; go_simp; try with_reducible rfl)
  try simp only [Act.put, List.getElem_toArray, List.getElem_cons_succ, List.getElem_cons_zero, List.setIfInBounds_toArray, List.set_cons_zero, List.set_cons_succ]
  refine wpAnyH_take (i := 18) (v := .bool true) rfl (by kernel_rfl) (by kernel_rfl) (by kernel_rfl) (fun _ _ _ h => h) (Or.inl ⟨by kernel_rfl, ?_⟩) (by assumption) ?_
  case refine_1 => (intro Wz hSw; go_simp; try with_reducible rfl)
  try simp only [Act.put, List.getElem_toArray, List.getElem_cons_succ, List.getElem_cons_zero, List.setIfInBounds_toArray, List.set_cons_zero, List.set_cons_succ]
  refine wpAnyH_take (i := 19) (v := vn) rfl (by kernel_rfl) (by kernel_rfl) (by kernel_rfl) (fun _ _ _ h => h) (Or.inl ⟨by kernel_rfl, ?_⟩) (by assumption) ?_
  case refine_1 => (intro Wz hSw; go_simp; try with_reducible rfl)
  try simp only [Act.put, List.getElem_toArray, List.getElem_cons_succ, List.getElem_cons_zero, List.setIfInBounds_toArray, List.set_cons_zero, List.set_cons_succ]
  refine wpAnyH_take (i := 20) (v := vq) rfl (by kernel_rfl) (by kernel_rfl) (by kernel_rfl) (fun _ _ _ h => h) (Or.inl ⟨by kernel_rfl, ?_⟩) (by assumption) ?_
  case refine_1 => (intro Wz hSw; go_simp; try with_reducible rfl)
  try simp only [Act.put, List.getElem_toArray, List.getElem_cons_succ, List.getElem_cons_zero, List.setIfInBounds_toArray, List.set_cons_zero, List.set_cons_succ]
  refine wpAnyH_ready (rs := [21]) (by kernel_rfl) (by simp) ?_
  refine AllReadyH.cons rfl (fun K hK => ?_) AllReadyH.nil
  go_simp
  refine (HSm.out vn vq _ hHeld0.t0 hHeld0.t1).mono ?_
  rintro e wq1 ⟨rfl, hbb⟩
  have hHeld1 : (fun Wz : World => HoldD w w.heap.size (ak, av) (bk, bv) c vl vf L F g1 g2 (gk, gv) vn vq G Wz) wq1 := hHeld0.later hbb
  clear hbb
  go_simp
  refine hK.out _ _ hHeld1 (fun hHeld2 => ?_)
  clear hK K hHeld2
  try simp only [Act.put, List.getElem_toArray, List.getElem_cons_succ, List.getElem_cons_zero, List.setIfInBounds_toArray, List.set_cons_zero, List.set_cons_succ]
  refine wpAnyH_take (i := 22) (v := .bool true) rfl (by kernel_rfl) (by kernel_rfl) (by kernel_rfl) (fun _ _ _ h => h) (Or.inl ⟨by kernel_rfl, ?_⟩) (by assumption) ?_
  case refine_1 => (intro Wz hSw; go_simp; try with_reducible rfl)
  try simp only [Act.put, List.getElem_toArray, List.getElem_cons_succ, List.getElem_cons_zero, List.setIfInBounds_toArray, List.set_cons_zero, List.set_cons_succ]
  refine wpAnyH_take (i := 23) (v := .bool true) rfl (by kernel_rfl) (by kernel_rfl) (by kernel_rfl) (fun _ _ _ h => h) (Or.inl ⟨by kernel_rfl, ?_⟩) (by assumption) ?_
  case refine_1 => (intro Wz hSw; go_simp; try with_reducible rfl)
  try simp only [Act.put, List.getElem_toArray, List.getElem_cons_succ, List.getElem_cons_zero, List.setIfInBounds_toArray, List.set_cons_zero, List.set_cons_succ]
  refine wpAnyH_take (i := 24) (v := .bool ts) rfl (by kernel_rfl) (by kernel_rfl) (by kernel_rfl) (fun _ _ _ h => h) (Or.inl ⟨by kernel_rfl, ?_⟩) (by assumption) ?_
  case refine_1 => (intro Wz hSw; go_simp; try with_reducible rfl)
  try simp only [Act.put, List.getElem_toArray, List.getElem_cons_succ, List.getElem_cons_zero, List.setIfInBounds_toArray, List.set_cons_zero, List.set_cons_succ]
  refine wpAnyH_take (i := 25) (v := .bool ts) rfl (by kernel_rfl) (by kernel_rfl) (by kernel_rfl) (fun _ _ _ h => h) (Or.inl ⟨by kernel_rfl, ?_⟩) (by assumption) ?_
  case refine_1 => (intro Wz hSw; go_simp; try with_reducible rfl)
  try simp only [Act.put, List.getElem_toArray, List.getElem_cons_succ, List.getElem_cons_zero, List.setIfInBounds_toArray, List.set_cons_zero, List.set_cons_succ]
  refine wpAnyH_take (i := 26) (v := .bool true) rfl (by kernel_rfl) (by kernel_rfl) (by kernel_rfl) (fun _ _ _ h => h) (Or.inl ⟨by kernel_rfl, ?_⟩) (by assumption) ?_
  case refine_1 => (intro Wz hSw; go_simp; try with_reducible rfl)
  try simp only [Act.put, List.getElem_toArray, List.getElem_cons_succ, List.getElem_cons_zero, List.setIfInBounds_toArray, List.set_cons_zero, List.set_cons_succ]
  refine wpAnyH_take (i := 27) (v := .bool true) rfl (by kernel_rfl) (by kernel_rfl) (by kernel_rfl) (fun _ _ _ h => h) (Or.inl ⟨by kernel_rfl, ?_⟩) (by assumption) ?_
  case refine_1 => (intro Wz hSw; go_simp; try with_reducible rfl)
  try simp only [Act.put, List.getElem_toArray, List.getElem_cons_succ, List.getElem_cons_zero, List.setIfInBounds_toArray, List.set_cons_zero, List.set_cons_succ]
  refine wpAnyH_take (i := 28) (v := .bool true) rfl (by kernel_rfl) (by kernel_rfl) (by kernel_rfl) (fun _ _ _ h => h) (Or.inl ⟨by kernel_rfl, ?_⟩) (by assumption) ?_
  case refine_1 => (intro Wz hSw; go_simp; try with_reducible rfl)
  try simp only [Act.put, List.getElem_toArray, List.getElem_cons_succ, List.getElem_cons_zero, List.setIfInBounds_toArray, List.set_cons_zero, List.set_cons_succ]
  refine wpAnyH_take (i := 29) (v := .int .i64 tE) rfl (by kernel_rfl) (by kernel_rfl) (by kernel_rfl) (fun _ _ _ h => h) (Or.inl ⟨by kernel_rfl, ?_⟩) (by assumption) ?_
  case refine_1 => (intro Wz hSw; go_simp; try with_reducible rfl)
  try simp only [Act.put, List.getElem_toArray, List.getElem_cons_succ, List.getElem_cons_zero, List.setIfInBounds_toArray, List.set_cons_zero, List.set_cons_succ]
  refine wpAnyH_take (i := 30) (v := .int .i64 tE) rfl (by kernel_rfl) (by kernel_rfl) (by kernel_rfl) (fun _ _ _ h => h) (Or.inl ⟨by kernel_rfl, ?_⟩) (by assumption) ?_
  case refine_1 => (intro Wz hSw; go_simp; try with_reducible rfl)
  try simp only [Act.put, List.getElem_toArray, List.getElem_cons_succ, List.getElem_cons_zero, List.setIfInBounds_toArray, List.set_cons_zero, List.set_cons_succ]
  refine wpAnyH_take (i := 31) (v := .bool true) rfl (by kernel_rfl) (by kernel_rfl) (by kernel_rfl) (fun _ _ _ h => h) (Or.inl ⟨by kernel_rfl, ?_⟩) (by assumption) ?_
  case refine_1 => (intro Wz hSw; go_simp; try with_reducible rfl)
  try simp only [Act.put, List.getElem_toArray, List.getElem_cons_succ, List.getElem_cons_zero, List.setIfInBounds_toArray, List.set_cons_zero, List.set_cons_succ]
  refine wpAnyH_take (i := 32) (v := .bool true) rfl (by kernel_rfl) (by kernel_rfl) (by kernel_rfl) (fun _ _ _ h => h) (Or.inl ⟨by kernel_rfl, ?_⟩) (by assumption) ?_
  case refine_1 => (intro Wz hSw; go_simp; try with_reducible rfl)
  try simp only [Act.put, List.getElem_toArray, List.getElem_cons_succ, List.getElem_cons_zero, List.setIfInBounds_toArray, List.set_cons_zero, List.set_cons_succ]
  refine wpAnyH_take (i := 33) (v := .bool true) rfl (by kernel_rfl) (by kernel_rfl) (by kernel_rfl) (fun _ _ _ h => h) (Or.inl ⟨by kernel_rfl, ?_⟩) (by assumption) ?_
  case refine_1 => (intro Wz hSw; go_simp; try with_reducible rfl)
  try simp only [Act.put, List.getElem_toArray, List.getElem_cons_succ, List.getElem_cons_zero, List.setIfInBounds_toArray, List.set_cons_zero, List.set_cons_succ]
  refine wpAnyH_take (i := 34) (v := .agg #[.bool ak, .string (mkS av)]) rfl (by kernel_rfl) (by kernel_rfl) (by kernel_rfl) (fun _ _ _ h => h) (Or.inl ⟨by kernel_rfl, ?_⟩) (by assumption) ?_
  case refine_1 => exact fun Wz hSw => exec_loadE _ _ (by rfl) _ _ #[.bool ak, .string (mkS av)] (0, 0) _ (by rfl) hSw.h.b0 Tryz.underlying81 rfl (by kernel_rfl)
  try simp only [Act.put, List.getElem_toArray, List.getElem_cons_succ, List.getElem_cons_zero, List.setIfInBounds_toArray, List.set_cons_zero, List.set_cons_succ]
  refine wpAnyH_take (i := 35) (v := .agg #[.bool bk, .string (mkS bv)]) rfl (by kernel_rfl) (by kernel_rfl) (by kernel_rfl) (fun _ _ _ h => h) (Or.inl ⟨by kernel_rfl, ?_⟩) (by assumption) ?_
  case refine_1 => exact fun Wz hSw => exec_loadE _ _ (by rfl) _ _ #[.bool bk, .string (mkS bv)] (0, 0) _ (by rfl) hSw.h.b1 Tryz.underlying81 rfl (by kernel_rfl)
  try simp only [Act.put, List.getElem_toArray, List.getElem_cons_succ, List.getElem_cons_zero, List.setIfInBounds_toArray, List.set_cons_zero, List.set_cons_succ]
  refine wpAnyH_take (i := 37) (v := .agg #[.bool ak, .string (mkS av)]) rfl (by kernel_rfl) (by kernel_rfl) (by kernel_rfl) (fun _ _ _ h => h) (Or.inl ⟨by kernel_rfl, ?_⟩) (by assumption) ?_
  case refine_1 => exact fun Wz hSw => exec_loadE _ _ (by rfl) _ _ #[.bool ak, .string (mkS av)] (0, 0) _ (by rfl) hSw.h.b0 Tryz.underlying81 rfl (by kernel_rfl)
  try simp only [Act.put, List.getElem_toArray, List.getElem_cons_succ, List.getElem_cons_zero, List.setIfInBounds_toArray, List.set_cons_zero, List.set_cons_succ]
  refine wpAnyH_take (i := 38) (v := .agg #[.bool bk, .string (mkS bv)]) rfl (by kernel_rfl) (by kernel_rfl) (by kernel_rfl) (fun _ _ _ h => h) (Or.inl ⟨by kernel_rfl, ?_⟩) (by assumption) ?_
  case refine_1 => exact fun Wz hSw => exec_loadE _ _ (by rfl) _ _ #[.bool bk, .string (mkS bv)] (0, 0) _ (by rfl) hSw.h.b1 Tryz.underlying81 rfl (by kernel_rfl)
  try simp only [Act.put, List.getElem_toArray, List.getElem_cons_succ, List.getElem_cons_zero, List.setIfInBounds_toArray, List.set_cons_zero, List.set_cons_succ]
  refine wpAnyH_ready (rs := [36]) (by kernel_rfl) (by simp) ?_
  refine AllReadyH.cons rfl (fun K hK => ?_) AllReadyH.nil
  go_simp
  refine (HSt.out _).mono ?_
  rintro e wq2 ⟨rfl, hbb⟩
  have hHeld2 : (fun Wz : World => HoldD w w.heap.size (ak, av) (bk, bv) c vl vf L F g1 g2 (gk, gv) vn vq G Wz) wq2 := hHeld1.later hbb
  clear hbb
  go_simp
  refine hK.out _ _ hHeld2 (fun hHeld2 => ?_)
  clear hK K hHeld2
  try simp only [Act.put, List.getElem_toArray, List.getElem_cons_succ, List.getElem_cons_zero, List.setIfInBounds_toArray, List.set_cons_zero, List.set_cons_succ]
  refine wpAnyH_ready (rs := [39]) (by kernel_rfl) (by simp) ?_
  refine AllReadyH.cons rfl (fun K hK => ?_) AllReadyH.nil
  go_simp
  refine (HSr.out _).mono ?_
  rintro e wq3 ⟨rfl, hbb⟩
  have hHeld3 : (fun Wz : World => HoldD w w.heap.size (ak, av) (bk, bv) c vl vf L F g1 g2 (gk, gv) vn vq G Wz) wq3 := hHeld2.later hbb
  clear hbb
  go_simp
  refine hK.out _ _ hHeld3 (fun hHeld2 => ?_)
  clear hK K hHeld2
  try simp only [Act.put, List.getElem_toArray, List.getElem_cons_succ, List.getElem_cons_zero, List.setIfInBounds_toArray, List.set_cons_zero, List.set_cons_succ]
  refine wpAnyH_take (i := 40) (v := .bool true) rfl (by kernel_rfl) (by kernel_rfl) (by kernel_rfl) (fun _ _ _ h => h) (Or.inl ⟨by kernel_rfl, ?_⟩) (by assumption) ?_
  case refine_1 => (intro Wz hSw; go_simp; try with_reducible rfl)
  try simp only [Act.put, List.getElem_toArray, List.getElem_cons_succ, List.getElem_cons_zero, List.setIfInBounds_toArray, List.set_cons_zero, List.set_cons_succ]
  refine wpAnyH_take (i := 41) (v := .bool true) rfl (by kernel_rfl) (by kernel_rfl) (by kernel_rfl) (fun _ _ _ h => h) (Or.inl ⟨by kernel_rfl, ?_⟩) (by assumption) ?_
  case refine_1 => (intro Wz hSw; go_simp; try with_reducible rfl)
  try simp only [Act.put, List.getElem_toArray, List.getElem_cons_succ, List.getElem_cons_zero, List.setIfInBounds_toArray, List.set_cons_zero, List.set_cons_succ]
  refine wpAnyH_take (i := 42) (v := .bool true) rfl (by kernel_rfl) (by kernel_rfl) (by kernel_rfl) (fun _ _ _ h => h) (Or.inl ⟨by kernel_rfl, ?_⟩) (by assumption) ?_
  case refine_1 => (intro Wz hSw; go_simp; try with_reducible rfl)
  try simp only [Act.put, List.getElem_toArray, List.getElem_cons_succ, List.getElem_cons_zero, List.setIfInBounds_toArray, List.set_cons_zero, List.set_cons_succ]
  refine wpAnyH_take (i := 43) (v := .agg #[.bool ak, .string (mkS av)]) rfl (by kernel_rfl) (by kernel_rfl) (by kernel_rfl) (fun _ _ _ h => h) (Or.inl ⟨by kernel_rfl, ?_⟩) (by assumption) ?_
  case refine_1 => exact fun Wz hSw => exec_loadE _ _ (by rfl) _ _ #[.bool ak, .string (mkS av)] (0, 0) _ (by rfl) hSw.h.b0 Tryz.underlying81 rfl (by kernel_rfl)
  try simp only [Act.put, List.getElem_toArray, List.getElem_cons_succ, List.getElem_cons_zero, List.setIfInBounds_toArray, List.set_cons_zero, List.set_cons_succ]
  refine wpAnyH_take (i := 44) (v := .agg #[.bool bk, .string (mkS bv)]) rfl (by kernel_rfl) (by kernel_rfl) (by kernel_rfl) (fun _ _ _ h => h) (Or.inl ⟨by kernel_rfl, ?_⟩) (by assumption) ?_
  case refine_1 => exact fun Wz hSw => exec_loadE _ _ (by rfl) _ _ #[.bool bk, .string (mkS bv)] (0, 0) _ (by rfl) hSw.h.b1 Tryz.underlying81 rfl (by kernel_rfl)
  try simp only [Act.put, List.getElem_toArray, List.getElem_cons_succ, List.getElem_cons_zero, List.setIfInBounds_toArray, List.set_cons_zero, List.set_cons_succ]
  refine wpAnyH_take (i := 46) (v := .agg #[.bool ak, .string (mkS av)]) rfl (by kernel_rfl) (by kernel_rfl) (by kernel_rfl) (fun _ _ _ h => h) (Or.inl ⟨by kernel_rfl, ?_⟩) (by assumption) ?_
  case refine_1 => exact fun Wz hSw => exec_loadE _ _ (by rfl) _ _ #[.bool ak, .string (mkS av)] (0, 0) _ (by rfl) hSw.h.b0 Tryz.underlying81 rfl (by kernel_rfl)
  try simp only [Act.put, List.getElem_toArray, List.getElem_cons_succ, List.getElem_cons_zero, List.setIfInBounds_toArray, List.set_cons_zero, List.set_cons_succ]
  refine wpAnyH_take (i := 47) (v := .agg #[.bool bk, .string (mkS bv)]) rfl (by kernel_rfl) (by kernel_rfl) (by kernel_rfl) (fun _ _ _ h => h) (Or.inl ⟨by kernel_rfl, ?_⟩) (by assumption) ?_
  case refine_1 => exact fun Wz hSw => exec_loadE _ _ (by rfl) _ _ #[.bool bk, .string (mkS bv)] (0, 0) _ (by rfl) hSw.h.b1 Tryz.underlying81 rfl (by kernel_rfl)
  try simp only [Act.put, List.getElem_toArray, List.getElem_cons_succ, List.getElem_cons_zero, List.setIfInBounds_toArray, List.set_cons_zero, List.set_cons_succ]
  refine wpAnyH_ready (rs := [45]) (by kernel_rfl) (by simp) ?_
  refine AllReadyH.cons rfl (fun K hK => ?_) AllReadyH.nil
  go_simp
  refine (HWk.out _).mono ?_
  rintro e wq4 ⟨rfl, hbb⟩
  have hHeld4 : (fun Wz : World => HoldD w w.heap.size (ak, av) (bk, bv) c vl vf L F g1 g2 (gk, gv) vn vq G Wz) wq4 := hHeld3.later hbb
  clear hbb
  go_simp
  refine hK.out _ _ hHeld4 (fun hHeld2 => ?_)
  clear hK K hHeld2
  try simp only [Act.put, List.getElem_toArray, List.getElem_cons_succ, List.getElem_cons_zero, List.setIfInBounds_toArray, List.set_cons_zero, List.set_cons_succ]
  refine wpAnyH_ready (rs := [48]) (by kernel_rfl) (by simp) ?_
  refine AllReadyH.cons rfl (fun K hK => ?_) AllReadyH.nil
  go_simp
  refine (HWr.out _).mono ?_
  rintro e wq5 ⟨rfl, hbb⟩
  have hHeld5 : (fun Wz : World => HoldD w w.heap.size (ak, av) (bk, bv) c vl vf L F g1 g2 (gk, gv) vn vq G Wz) wq5 := hHeld4.later hbb
  clear hbb
  go_simp
  refine hK.out _ _ hHeld5 (fun hHeld2 => ?_)
  clear hK K hHeld2
  try simp only [Act.put, List.getElem_toArray, List.getElem_cons_succ, List.getElem_cons_zero, List.setIfInBounds_toArray, List.set_cons_zero, List.set_cons_succ]
  refine wpAnyH_take (i := 49) (v := .bool true) rfl (by kernel_rfl) (by kernel_rfl) (by kernel_rfl) (fun _ _ _ h => h) (Or.inl ⟨by kernel_rfl, ?_⟩) (by assumption) ?_
  case refine_1 => (intro Wz hSw; go_simp; try with_reducible rfl)
  try simp only [Act.put, List.getElem_toArray, List.getElem_cons_succ, List.getElem_cons_zero, List.setIfInBounds_toArray, List.set_cons_zero, List.set_cons_succ]
  refine wpAnyH_take (i := 50) (v := .bool true) rfl (by kernel_rfl) (by kernel_rfl) (by kernel_rfl) (fun _ _ _ h => h) (Or.inl ⟨by kernel_rfl, ?_⟩) (by assumption) ?_
  case refine_1 => (intro Wz hSw; go_simp; try with_reducible rfl)
  try simp only [Act.put, List.getElem_toArray, List.getElem_cons_succ, List.getElem_cons_zero, List.setIfInBounds_toArray, List.set_cons_zero, List.set_cons_succ]
  refine wpAnyH_take (i := 51) (v := .bool true) rfl (by kernel_rfl) (by kernel_rfl) (by kernel_rfl) (fun _ _ _ h => h) (Or.inl ⟨by kernel_rfl, ?_⟩) (by assumption) ?_
  case refine_1 => (intro Wz hSw; go_simp; try with_reducible rfl)
  try simp only [Act.put, List.getElem_toArray, List.getElem_cons_succ, List.getElem_cons_zero, List.setIfInBounds_toArray, List.set_cons_zero, List.set_cons_succ]
  refine wpAnyH_take (i := 52) (v := vf) rfl (by kernel_rfl) (by kernel_rfl) (by kernel_rfl) (fun _ _ _ h => h) (Or.inl ⟨by kernel_rfl, ?_⟩) (by assumption) ?_
  case refine_1 => (intro Wz hSw; go_simp; try with_reducible rfl)
  try simp only [Act.put, List.getElem_toArray, List.getElem_cons_succ, List.getElem_cons_zero, List.setIfInBounds_toArray, List.set_cons_zero, List.set_cons_succ]
  refine wpAnyH_take (i := 53) (v := .int .i64 now) rfl (by kernel_rfl) (by kernel_rfl) (by kernel_rfl) (fun _ _ _ h => h) (Or.inl ⟨by kernel_rfl, ?_⟩) (by assumption) ?_
  case refine_1 => (intro Wz hSw; go_simp; try with_reducible rfl)
  try simp only [Act.put, List.getElem_toArray, List.getElem_cons_succ, List.getElem_cons_zero, List.setIfInBounds_toArray, List.set_cons_zero, List.set_cons_succ]
  refine wpAnyH_take (i := 55) (v := vf) rfl (by kernel_rfl) (by kernel_rfl) (by kernel_rfl) (fun _ _ _ h => h) (Or.inl ⟨by kernel_rfl, ?_⟩) (by assumption) ?_
  case refine_1 => (intro Wz hSw; go_simp; try with_reducible rfl)
  try simp only [Act.put, List.getElem_toArray, List.getElem_cons_succ, List.getElem_cons_zero, List.setIfInBounds_toArray, List.set_cons_zero, List.set_cons_succ]
  refine wpAnyH_take (i := 56) (v := .int .i64 now) rfl (by kernel_rfl) (by kernel_rfl) (by kernel_rfl) (fun _ _ _ h => h) (Or.inl ⟨by kernel_rfl, ?_⟩) (by assumption) ?_
  case refine_1 => (intro Wz hSw; go_simp; try with_reducible rfl)
  try simp only [Act.put, List.getElem_toArray, List.getElem_cons_succ, List.getElem_cons_zero, List.setIfInBounds_toArray, List.set_cons_zero, List.set_cons_succ]
  refine wpAnyH_ready (rs := [54]) (by kernel_rfl) (by simp) ?_
  refine AllReadyH.cons rfl (fun K hK => ?_) AllReadyH.nil
  go_simp
  refine (HOf.out _ hHeld5.h.nm hHeld5.h.sf).mono ?_
  rintro e wq6 ⟨rfl, hbb⟩
  have hHeld6 : (fun Wz : World => HoldD w w.heap.size (ak, av) (bk, bv) c vl vf L F g1 g2 (gk, gv) vn vq G Wz) wq6 := hHeld5.later hbb
  clear hbb
  go_simp
  refine hK.out _ _ hHeld6 (fun hHeld2 => ?_)
  clear hK K hHeld2
  try simp only [Act.put, List.getElem_toArray, List.getElem_cons_succ, List.getElem_cons_zero, List.setIfInBounds_toArray, List.set_cons_zero, List.set_cons_succ]
  refine wpAnyH_ready (rs := [57]) (by kernel_rfl) (by simp) ?_
  refine AllReadyH.cons rfl (fun K hK => ?_) AllReadyH.nil
  go_simp
  refine (HOr.out _ hHeld6.h.sf).mono ?_
  rintro e wq7 ⟨rfl, hbb⟩
  have hHeld7 : (fun Wz : World => HoldD w w.heap.size (ak, av) (bk, bv) c vl vf L F g1 g2 (gk, gv) vn vq G Wz) wq7 := hHeld6.later hbb
  clear hbb
  go_simp
  refine hK.out _ _ hHeld7 (fun hHeld2 => ?_)
  clear hK K hHeld2
  try simp only [Act.put, List.getElem_toArray, List.getElem_cons_succ, List.getElem_cons_zero, List.setIfInBounds_toArray, List.set_cons_zero, List.set_cons_succ]
  refine wpAnyH_take (i := 58) (v := .bool true) rfl (by kernel_rfl) (by kernel_rfl) (by kernel_rfl) (fun _ _ _ h => h) (Or.inl ⟨by kernel_rfl, ?_⟩) (by assumption) ?_
  case refine_1 => exact fun Wz hSw => exec_eqlE _ _ (by rfl) (ckA O) (ckA O) true (by rfl) (by rfl) (chk_eql Wz O) guardX
  try simp only [Act.put, List.getElem_toArray, List.getElem_cons_succ, List.getElem_cons_zero, List.setIfInBounds_toArray, List.set_cons_zero, List.set_cons_succ]
  refine wpAnyH_take (i := 59) (v := .bool true) rfl (by kernel_rfl) (by kernel_rfl) (by kernel_rfl) (fun _ _ _ h => h) (Or.inl ⟨by kernel_rfl, ?_⟩) (by assumption) ?_
  case refine_1 => (intro Wz hSw; go_simp; try with_reducible rfl)
  try simp only [Act.put, List.getElem_toArray, List.getElem_cons_succ, List.getElem_cons_zero, List.setIfInBounds_toArray, List.set_cons_zero, List.set_cons_succ]
  refine wpAnyH_take (i := 60) (v := .bool true) rfl (by kernel_rfl) (by kernel_rfl) (by kernel_rfl) (fun _ _ _ h => h) (Or.inl ⟨by kernel_rfl, ?_⟩) (by assumption) ?_
  case refine_1 => (intro Wz hSw; go_simp; try with_reducible rfl)
  try simp only [Act.put, List.getElem_toArray, List.getElem_cons_succ, List.getElem_cons_zero, List.setIfInBounds_toArray, List.set_cons_zero, List.set_cons_succ]
  refine wpAnyH_take (i := 61) (v := vf) rfl (by kernel_rfl) (by kernel_rfl) (by kernel_rfl) (fun _ _ _ h => h) (Or.inl ⟨by kernel_rfl, ?_⟩) (by assumption) ?_
  case refine_1 => (intro Wz hSw; go_simp; try with_reducible rfl)
  try simp only [Act.put, List.getElem_toArray, List.getElem_cons_succ, List.getElem_cons_zero, List.setIfInBounds_toArray, List.set_cons_zero, List.set_cons_succ]
  refine wpAnyH_take (i := 62) (v := .agg #[.bool c.w, .string (mkS c.v), .bool c.h, .int .i64 c.a, .bool c.b]) rfl (by kernel_rfl) (by kernel_rfl) (by kernel_rfl) (fun _ _ _ h => h) (Or.inl ⟨by kernel_rfl, ?_⟩) (by assumption) ?_
  case refine_1 => exact fun Wz hSw => exec_loadE _ _ (by rfl) _ _ #[.bool c.w, .string (mkS c.v), .bool c.h, .int .i64 c.a, .bool c.b] (0, 0) _ (by rfl) hSw.h.b2 Tryz.underlying89 rfl (by kernel_rfl)
  try simp only [Act.put, List.getElem_toArray, List.getElem_cons_succ, List.getElem_cons_zero, List.setIfInBounds_toArray, List.set_cons_zero, List.set_cons_succ]
  refine wpAnyH_take (i := 63) (v := .int .i64 now) rfl (by kernel_rfl) (by kernel_rfl) (by kernel_rfl) (fun _ _ _ h => h) (Or.inl ⟨by kernel_rfl, ?_⟩) (by assumption) ?_
  case refine_1 => (intro Wz hSw; go_simp; try with_reducible rfl)
  try simp only [Act.put, List.getElem_toArray, List.getElem_cons_succ, List.getElem_cons_zero, List.setIfInBounds_toArray, List.set_cons_zero, List.set_cons_succ]
  refine wpAnyH_take (i := 65) (v := vf) rfl (by kernel_rfl) (by kernel_rfl) (by kernel_rfl) (fun _ _ _ h => h) (Or.inl ⟨by kernel_rfl, ?_⟩) (by assumption) ?_
  case refine_1 => (intro Wz hSw; go_simp; try with_reducible rfl)
  try simp only [Act.put, List.getElem_toArray, List.getElem_cons_succ, List.getElem_cons_zero, List.setIfInBounds_toArray, List.set_cons_zero, List.set_cons_succ]
  refine wpAnyH_take (i := 66) (v := .agg #[.bool c.w, .string (mkS c.v), .bool c.h, .int .i64 c.a, .bool c.b]) rfl (by kernel_rfl) (by kernel_rfl) (by kernel_rfl) (fun _ _ _ h => h) (Or.inl ⟨by kernel_rfl, ?_⟩) (by assumption) ?_
  case refine_1 => exact fun Wz hSw => exec_loadE _ _ (by rfl) _ _ #[.bool c.w, .string (mkS c.v), .bool c.h, .int .i64 c.a, .bool c.b] (0, 0) _ (by rfl) hSw.h.b2 Tryz.underlying89 rfl (by kernel_rfl)
  try simp only [Act.put, List.getElem_toArray, List.getElem_cons_succ, List.getElem_cons_zero, List.setIfInBounds_toArray, List.set_cons_zero, List.set_cons_succ]
  refine wpAnyH_take (i := 67) (v := .int .i64 now) rfl (by kernel_rfl) (by kernel_rfl) (by kernel_rfl) (fun _ _ _ h => h) (Or.inl ⟨by kernel_rfl, ?_⟩) (by assumption) ?_
  case refine_1 => (intro Wz hSw; go_simp; try with_reducible rfl)
  try simp only [Act.put, List.getElem_toArray, List.getElem_cons_succ, List.getElem_cons_zero, List.setIfInBounds_toArray, List.set_cons_zero, List.set_cons_succ]
  refine wpAnyH_ready (rs := [64]) (by kernel_rfl) (by simp) ?_
  refine AllReadyH.cons rfl (fun K hK => ?_) AllReadyH.nil
  go_simp
  refine (HUn.out _ hHeld7.h.nm hHeld7.h.sf).mono ?_
  rintro e wq8 ⟨rfl, hbb⟩
  have hHeld8 : (fun Wz : World => HoldD w w.heap.size (ak, av) (bk, bv) c vl vf L F g1 g2 (gk, gv) vn vq G Wz) wq8 := hHeld7.later hbb
  clear hbb
  go_simp
  refine hK.out _ _ hHeld8 (fun hHeld2 => ?_)
  clear hK K hHeld2
  try simp only [Act.put, List.getElem_toArray, List.getElem_cons_succ, List.getElem_cons_zero, List.setIfInBounds_toArray, List.set_cons_zero, List.set_cons_succ]
  refine wpAnyH_ready (rs := [68]) (by kernel_rfl) (by simp) ?_
  refine AllReadyH.cons rfl (fun K hK => ?_) AllReadyH.nil
  go_simp
  refine (HUr.out _ hHeld8.h.sf).mono ?_
  rintro e wq9 ⟨rfl, hbb⟩
  have hHeld9 : (fun Wz : World => HoldD w w.heap.size (ak, av) (bk, bv) c vl vf L F g1 g2 (gk, gv) vn vq G Wz) wq9 := hHeld8.later hbb
  clear hbb
  go_simp
  refine hK.out _ _ hHeld9 (fun hHeld2 => ?_)
  clear hK K hHeld2
  try simp only [Act.put, List.getElem_toArray, List.getElem_cons_succ, List.getElem_cons_zero, List.setIfInBounds_toArray, List.set_cons_zero, List.set_cons_succ]
  refine wpAnyH_take (i := 69) (v := .bool true) rfl (by kernel_rfl) (by kernel_rfl) (by kernel_rfl) (fun _ _ _ h => h) (Or.inl ⟨by kernel_rfl, ?_⟩) (by assumption) ?_
  case refine_1 => (intro Wz hSw; go_simp; try with_reducible rfl)
  try simp only [Act.put, List.getElem_toArray, List.getElem_cons_succ, List.getElem_cons_zero, List.setIfInBounds_toArray, List.set_cons_zero, List.set_cons_succ]
  refine wpAnyH_take (i := 70) (v := .bool true) rfl (by kernel_rfl) (by kernel_rfl) (by kernel_rfl) (fun _ _ _ h => h) (Or.inl ⟨by kernel_rfl, ?_⟩) (by assumption) ?_
  case refine_1 => (intro Wz hSw; go_simp; try with_reducible rfl)
  try simp only [Act.put, List.getElem_toArray, List.getElem_cons_succ, List.getElem_cons_zero, List.setIfInBounds_toArray, List.set_cons_zero, List.set_cons_succ]
  refine wpAnyH_take (i := 71) (v := .bool true) rfl (by kernel_rfl) (by kernel_rfl) (by kernel_rfl) (fun _ _ _ h => h) (Or.inl ⟨by kernel_rfl, ?_⟩) (by assumption) ?_
  case refine_1 => (intro Wz hSw; go_simp; try with_reducible rfl)
  try simp only [Act.put, List.getElem_toArray, List.getElem_cons_succ, List.getElem_cons_zero, List.setIfInBounds_toArray, List.set_cons_zero, List.set_cons_succ]
  refine wpAnyH_take (i := 72) (v := vf) rfl (by kernel_rfl) (by kernel_rfl) (by kernel_rfl) (fun _ _ _ h => h) (Or.inl ⟨by kernel_rfl, ?_⟩) (by assumption) ?_
  case refine_1 => (intro Wz hSw; go_simp; try with_reducible rfl)
  try simp only [Act.put, List.getElem_toArray, List.getElem_cons_succ, List.getElem_cons_zero, List.setIfInBounds_toArray, List.set_cons_zero, List.set_cons_succ]
  refine wpAnyH_take (i := 74) (v := .agg #[.bool c.w, .string (mkS c.v), .bool c.h, .int .i64 c.a, .bool c.b]) rfl (by kernel_rfl) (by kernel_rfl) (by kernel_rfl) (fun _ _ _ h => h) (Or.inl ⟨by kernel_rfl, ?_⟩) (by assumption) ?_
  case refine_1 => exact fun Wz hSw => exec_loadE _ _ (by rfl) _ _ #[.bool c.w, .string (mkS c.v), .bool c.h, .int .i64 c.a, .bool c.b] (0, 0) _ (by rfl) hSw.h.b2 Tryz.underlying89 rfl (by kernel_rfl)
  try simp only [Act.put, List.getElem_toArray, List.getElem_cons_succ, List.getElem_cons_zero, List.setIfInBounds_toArray, List.set_cons_zero, List.set_cons_succ]
  refine wpAnyH_take (i := 76) (v := vf) rfl (by kernel_rfl) (by kernel_rfl) (by kernel_rfl) (fun _ _ _ h => h) (Or.inl ⟨by kernel_rfl, ?_⟩) (by assumption) ?_
  case refine_1 => (intro Wz hSw; go_simp; try with_reducible rfl)
  try simp only [Act.put, List.getElem_toArray, List.getElem_cons_succ, List.getElem_cons_zero, List.setIfInBounds_toArray, List.set_cons_zero, List.set_cons_succ]
  refine wpAnyH_take (i := 77) (v := .agg #[.bool c.w, .string (mkS c.v), .bool c.h, .int .i64 c.a, .bool c.b]) rfl (by kernel_rfl) (by kernel_rfl) (by kernel_rfl) (fun _ _ _ h => h) (Or.inl ⟨by kernel_rfl, ?_⟩) (by assumption) ?_
  case refine_1 => exact fun Wz hSw => exec_loadE _ _ (by rfl) _ _ #[.bool c.w, .string (mkS c.v), .bool c.h, .int .i64 c.a, .bool c.b] (0, 0) _ (by rfl) hSw.h.b2 Tryz.underlying89 rfl (by kernel_rfl)
  try simp only [Act.put, List.getElem_toArray, List.getElem_cons_succ, List.getElem_cons_zero, List.setIfInBounds_toArray, List.set_cons_zero, List.set_cons_succ]
  refine wpAnyH_ready (rs := [73]) (by kernel_rfl) (by simp) ?_
  refine AllReadyH.cons rfl (fun K hK => ?_) AllReadyH.nil
  go_simp
  refine (HOw.out _ hHeld9.h.sf).mono ?_
  rintro e wq10 ⟨vo, rfl, hof, hon, hbb⟩
  have hHeld10 : (fun Wz : World => HoldD w w.heap.size (ak, av) (bk, bv) c vl vf L F g1 g2 (gk, gv) vn vq G Wz) wq10 := hHeld9.later hbb
  have HON := Lib.hid hon
  clear hon
  clear hbb
  go_simp
  refine hK.out _ _ hHeld10 (fun hHeld2 => ?_)
  clear hK K hHeld2
  try simp only [Act.put, List.getElem_toArray, List.getElem_cons_succ, List.getElem_cons_zero, List.setIfInBounds_toArray, List.set_cons_zero, List.set_cons_succ]
  refine wpAnyH_ready (rs := [75]) (by kernel_rfl) (by simp) ?_
  refine AllReadyH.cons rfl (fun K hK => ?_) AllReadyH.nil
  go_simp
  refine (HAk.out vo _ hHeld10.h.nm hof HON.out).mono ?_
  rintro e wq11 ⟨va, rfl, haf, hbb⟩
  have hHeld11 : (fun Wz : World => HoldD w w.heap.size (ak, av) (bk, bv) c vl vf L F g1 g2 (gk, gv) vn vq G Wz) wq11 := hHeld10.later hbb
  clear hbb
  go_simp
  refine hK.out _ _ hHeld11 (fun hHeld2 => ?_)
  clear hK K hHeld2
  try simp only [Act.put, List.getElem_toArray, List.getElem_cons_succ, List.getElem_cons_zero, List.setIfInBounds_toArray, List.set_cons_zero, List.set_cons_succ]
  refine wpAnyH_ready (rs := [78]) (by kernel_rfl) (by simp) ?_
  refine AllReadyH.cons rfl (fun K hK => ?_) AllReadyH.nil
  go_simp
  refine (HAr.out _ hHeld11.h.sf).mono ?_
  rintro e wq12 ⟨vb, rfl, hbf, hbb⟩
  have hHeld12 : (fun Wz : World => HoldD w w.heap.size (ak, av) (bk, bv) c vl vf L F g1 g2 (gk, gv) vn vq G Wz) wq12 := hHeld11.later hbb
  have haf2 := isFlds_below haf hbb
  clear hbb
  go_simp
  refine hK.out _ _ hHeld12 (fun hHeld2 => ?_)
  clear hK K hHeld2
  try simp only [Act.put, List.getElem_toArray, List.getElem_cons_succ, List.getElem_cons_zero, List.setIfInBounds_toArray, List.set_cons_zero, List.set_cons_succ]
  refine wpAnyH_ready (rs := [79]) (by kernel_rfl) (by simp) ?_
  refine AllReadyH.cons rfl (fun K hK => ?_) AllReadyH.nil
  go_simp
  refine (HSf.out va vb _ haf2 hbf).mono ?_
  rintro e wq13 ⟨rfl, hbb⟩
  have hHeld13 : (fun Wz : World => HoldD w w.heap.size (ak, av) (bk, bv) c vl vf L F g1 g2 (gk, gv) vn vq G Wz) wq13 := hHeld12.later hbb
  clear hbb
  go_simp
  refine hK.out _ _ hHeld13 (fun hHeld2 => ?_)
  clear hK K hHeld2
  try simp only [Act.put, List.getElem_toArray, List.getElem_cons_succ, List.getElem_cons_zero, List.setIfInBounds_toArray, List.set_cons_zero, List.set_cons_succ]
  refine wpAnyH_take (i := 80) (v := .bool true) rfl (by kernel_rfl) (by kernel_rfl) (by kernel_rfl) (fun _ _ _ h => h) (Or.inl ⟨by kernel_rfl, ?_⟩) (by assumption) ?_
  case refine_1 => (intro Wz hSw; go_simp; try with_reducible rfl)
  try simp only [Act.put, List.getElem_toArray, List.getElem_cons_succ, List.getElem_cons_zero, List.setIfInBounds_toArray, List.set_cons_zero, List.set_cons_succ]
  refine wpAnyH_take (i := 81) (v := ?_) rfl (by kernel_rfl) (by kernel_rfl) (by kernel_rfl) (fun _ _ _ h => h) (Or.inl ⟨by kernel_rfl, ?_⟩) (by assumption) ?_
  case refine_2 => (intro Wz hSw; go_simp; try with_reducible rfl)
  try simp only [Act.put, List.getElem_toArray, List.getElem_cons_succ, List.getElem_cons_zero, List.setIfInBounds_toArray, List.set_cons_zero, List.set_cons_succ]
  refine wpAnyH_done (by kernel_rfl) ?_ _
  go_wp2_with fail
  go_ret
  exact ⟨rfl, hHeld13.h.bl⟩


set_option maxHeartbeats 1000000 in
theorem ecalls_any (S : ByteArray) (a b : Tg) (c : Ck) (vl vf : Value) (L : List Bs) (F : List (Bs × Bs)) (now : Int) (w : World) (hN : NamH w) (hs : IsStrs w vl L) (hzl : ∀ x ∈ L, x.length ≤ 140737488351232) (hll : L.length ≤ 140737488351232)
    (hf : IsFlds w vf F) (hnl : ∀ n c, vf = .slice none n c → c = 0) (hzf : ∀ f ∈ F, f.1.length ≤ 140737488351232 ∧ f.2.length ≤ 140737488351232) (hlf : F.length ≤ 140737488351232) (ha : -9223372036854775808 ≤ c.a ∧ c.a ≤ 9223372036854775807) :
    Calls Tryz.prog 8 #[.string S, vl, tgVal a, tgVal b, vf, ckV c, .int .i64 now] w fun e w' => e = .returned (.bool true) ∧ Below w.heap.size w w' := by
  obtain ⟨ak, av⟩ := a
  obtain ⟨bk, bv⟩ := b
  have hLt : ∀ W : World, IsStrs W vl L → Calls Tryz.prog 32 #[vl, .int .i64 20, .int .i64 600] W fun e w' => e = .returned (.bool (lightX 20 600 L)) ∧ W = w' := fun W h => lightX_any 20 600 vl L W (by omega) (by omega) h hzl hll
  have hLf := fun (W : World) h => light11_any vf F W h hzf hlf
  by_cases hg : S.size ≤ 200 ∧ lightX 20 600 L = true ∧ (mkS av).size ≤ 100 ∧ (mkS bv).size ≤ 100 ∧ (mkS c.v).size ≤ 100 ∧ lightU F = true
  · obtain ⟨y1, yl, y2, y3, y4, yf⟩ := hg
    rw [yl] at hLt
    rw [yf] at hLf
    obtain ⟨l1, l2⟩ := lightX_parts 20 600 L yl
    have ls := lens_all 600 L l2
    have lm : L.length * 600 ≤ 20 * 600 := Nat.mul_le_mul_right _ l1
    have lsum : Lib.lens L + L.length ≤ 1000000 := by omega
    obtain ⟨f1, f2⟩ := lightU_parts F yf
    have zf := sum_each F (by omega)
    have za : av.length ≤ 140737488351232 := by have := size_mkS av; omega
    have zc : c.v.length ≤ 1000000 := by have := size_mkS c.v; omega
    have hpl : (prtL L).length ≤ 1000000 := Nat.le_trans (flat_len L) lsum
    have htl : (tagsL (prtL L)).length ≤ 1099511627 := by
      unfold tagsL
      split
      · simp
      · split
        · rw [List.length_map]; omega
        · simp
    have hkl : (askL F c).length ≤ 1099511627 := by
      have h1 := delAll_len nWs F
      have h2 : (askA c).length ≤ 1 := by unfold askA; split <;> simp
      have h3 : (askZ c).length ≤ 1 := by unfold askZ; split <;> simp
      unfold askL
      rw [List.length_append, List.length_append]
      omega
    exact ec_in S ak av bk bv c vl vf L F now w hs hf hN (tgG (bs S)).1 (tgG (bs S)).2 (tgE (bs S)) (mkS (tgT (ak, av))) (tgTE (ak, av)) (tagsS (prtL L)) (tagsE (prtL L)) (tagsL (prtL L)) (stB (ak, av) (bk, bv)) (wkB (ak, av) (bk, bv)) (unB F c now) (ofC F now) (askL F c)
      (Lib.hid lives11_any) (Lib.hid hLt) (Lib.hid hLf)
      (Lib.hid fun W => tparse_any S W (by omega)) (Lib.hid fun W => rtparse_any S W (by omega))
      (Lib.hid fun W => ttext_any (ak, av) W za) (Lib.hid fun W => rtext11_any (ak, av) W za)
      (Lib.hid fun W h => (ttags_any vl L W h lsum).mono fun e w' ⟨v', h1, h2, h3⟩ => ⟨v', h1, isTgs_own h2, h3⟩) (Lib.hid fun W h => (rttags_any vl L W h lsum).mono fun e w' ⟨v', h1, h2, h3⟩ => ⟨v', h1, isTgs_own h2, h3⟩)
      (Lib.hid fun v1 v2 W h1 h2 => tsame_self v1 v2 _ W h1 h2 htl)
      (Lib.hid fun W => strong_any (ak, av) (bk, bv) W) (Lib.hid fun W => rstrong11_any (ak, av) (bk, bv) W)
      (Lib.hid fun W => weak_any (ak, av) (bk, bv) W) (Lib.hid fun W => rweak11_any (ak, av) (bk, bv) W)
      (Lib.hid fun W hN h => eof_any vf F now W hN h (by omega) (by omega)) (Lib.hid fun W h => rof_any vf F now W h (by omega) (by omega))
      (Lib.hid fun W hN h => unch_any vf F c now W hN h (by omega) (by omega)) (Lib.hid fun W h => runch_any vf F c now W h (by omega) (by omega))
      (Lib.hid fun W h => (own_any vf F W h hnl (by omega)).mono fun e w' ⟨v', h1, h2, h3⟩ => ⟨v', h1, isFlds_own h2, own_nilE h2, h3⟩)
      (Lib.hid fun v W hN h hn => (eask_any v F c W hN h hn zf (by omega) zc ha).mono fun e w' ⟨v', h1, h2, h3⟩ => ⟨v', h1, isFlds_own h2, h3⟩)
      (Lib.hid fun W h => rask_any vf F c W h zf (by omega) zc ha)
      (Lib.hid fun v1 v2 W h1 h2 => ksame_self v1 v2 _ W h1 h2 hkl) y1 y2 y3 y4
  · exact ec_out S ak av bk bv c vl vf L F now w hs hf hN (lightX 20 600 L) (lightU F) (Lib.hid lives11_any) (Lib.hid hLt) (Lib.hid hLf) hg

end Tk
end Go.Proofs.YtajmheblbnodjaaGreatDoor
