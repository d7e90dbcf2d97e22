/- VaC VaO Num0 VaK, put together. -/
import Derived.Test.YthooghgiokgdhaaGreatDoorQE
import Derived.Test.YthooghgiokgdhaaGreatDoorQA
import Derived.Test.YthooghgiokgdhaaGreatDoorQD
import Derived.Shelf.Slices.In.SortNone
import Derived.Shelf.Slices.CompactS
import Derived.Sort.OwnSorted
import Derived.Sort.Grow
import Derived.Sort.EveryDepth
import Derived.Lib.OwnBridge
import Derived.Lib.Join
namespace Go.Proofs.YthooghgiokgdhaaGreatDoor
open Go.RowKit
namespace Tk

attribute [local go_sem] Oper.semAt_some

set_option maxHeartbeats 1000000 in
theorem ffs_any (t : ByteArray) (w : World) :
    Calls Tryz.prog 186 #[.string t, .func (.func 187) #[] #[]] w fun e w' => e = .returned (.func (.func 242) #[] #[.pointer (some ⟨w.heap.size, 0, none⟩), .pointer (some ⟨w.heap.size + 1, 0, none⟩)]) ∧
      w' = (w.alloc (.cells #[.string t] 9)).alloc (.cells #[.func (.func 187) #[] #[]] 217) := by
  go_enter Tryz.func186, Tryz.ntmps186
  go_wp2_with fail
  go_ret
  exact ⟨rfl, rfl⟩

theorem BM.base {b B : Nat} {l : Bs} {M : Nat → Prop} {W : World} (h : BM b l M W) (hM : ∀ k, M k → B ≤ k) : IsB B b l W := by
  have hrow : ∀ (p v : Value), W.heap[b]? = some (.cells #[p, v] 110 (0, 0)) → ∀ (cs : List Value) (n : Nat), W.ownsRow 0 5 1 v n cs → W.ownsRow B 5 1 v n cs := by
    intro p v hb cs n hr
    refine ⟨hr.1, ?_⟩
    rcases hr.2 with hn | ⟨g, cap, cur, hv, hbase, hg, h1, h2, h3, h4⟩
    · exact .inl hn
    · exact .inr ⟨g, cap, cur, hv, hM g (h.own p v hb g (by rw [hv]; rfl)), hg, h1, h2, h3, h4⟩
  rcases h.isb with h1 | h1
  · obtain ⟨h0, v, hb, hr, hne⟩ := h1
    exact .inl ⟨hM b h.mb, v, hb, hrow _ v hb _ _ hr, hne⟩
  · obtain ⟨h0, v, hb, hr, hne⟩ := h1
    exact .inr ⟨hM b h.mb, v, hb, hrow _ v hb _ _ hr, hne⟩
theorem BM.fresh (w : World) : BM w.heap.size [] (fun k => k = w.heap.size) (w.alloc (.cells #[.pointer none, .slice none 0 0] 110)) := by
  have hb : (w.alloc (.cells #[.pointer none, .slice none 0 0] 110)).heap[w.heap.size]? = some (.cells #[.pointer none, .slice none 0 0] 110 (0, 0)) := heap_alloc_last w _
  refine ⟨.inl ⟨Nat.zero_le _, .slice none 0 0, hb, World.ownsRow_nil _ _ _ _, by simp [Value.ownBlock]⟩, rfl, ?_⟩
  intro p v hb2 k hk
  have e : v = .slice none 0 0 := two_inj (hb2.symm.trans hb)
  subst e
  simp [Value.ownBlock] at hk

def totW (L : List Bs) : Nat := (L.map fun p => p.length + 1).sum
theorem tot_app (A B : List Bs) : totW (A ++ B) = totW A + totW B := by simp [totW]
theorem addW_len (acc p : Bs) : (addW acc p).length ≤ acc.length + p.length + 1 := by
  unfold addW; split
  · omega
  · simp only [List.length_append, List.length_cons]; omega
theorem bldW_fold : ∀ (L : List Bs) (acc : Bs), (L.foldl addW acc).length ≤ acc.length + totW L
  | [], acc => by simp [totW]
  | p :: t, acc => by
    have h := bldW_fold t (addW acc p)
    have h2 := addW_len acc p
    rw [List.foldl_cons]
    simp only [totW, List.map_cons, List.sum_cons] at h ⊢
    omega
theorem bldW_len (L : List Bs) : (bldW L).length ≤ totW L := by have := bldW_fold L []; simpa [bldW] using this
theorem tot_fld : ∀ (s cur : Bs), totW (fldG cur s) ≤ cur.length + s.length + 1
  | [], cur => by
    rw [fldG]; split <;> simp [totW]
  | c :: t, cur => by
    rw [fldG]
    have h1 := tot_fld t []
    have h2 := tot_fld t (cur ++ [c])
    split
    · split
      · simp only [List.length_nil, List.length_cons] at *; omega
      · simp only [totW, List.map_cons, List.sum_cons, List.length_nil, List.length_cons] at *; omega
    · simp only [List.length_append, List.length_cons, List.length_nil] at *; omega
theorem pre_len {s : Bs} {pre : List Bs} {x : Bs} (h : pre ++ [x] <+: fldL s) : (bldW pre).length + x.length + 1 ≤ s.length + 1 := by
  obtain ⟨r, hr⟩ := h
  have h1 := tot_fld s []
  have h2 := bldW_len pre
  have h3 : totW (pre ++ [x] ++ r) = totW (fldL s) := by rw [hr]
  rw [tot_app, tot_app] at h3
  simp only [totW, List.map_cons, List.map_nil, List.sum_cons, List.sum_nil, List.length_nil] at h1 h2 h3
  unfold fldL at h3
  omega
theorem pieces_ne : ∀ (s cur : Bs), ∀ p ∈ fldG cur s, p ≠ []
  | [], cur, p, hp => by
    rw [fldG] at hp
    split at hp
    · simp at hp
    · rename_i h; rw [List.mem_singleton] at hp; subst hp; exact h
  | c :: t, cur, p, hp => by
    rw [fldG] at hp
    split at hp
    · split at hp
      · exact pieces_ne t [] p hp
      · rename_i h
        rcases List.mem_cons.1 hp with rfl | hp
        · exact h
        · exact pieces_ne t [] p hp
    · exact pieces_ne t _ p hp
theorem WrPost.below {b : Nat} {l : Bs} {M : Nat → Prop} {w0 w w' : World} (h : WrPost b l M w w') (hb : Below w0.heap.size w0 w) (hM : ∀ k, M k → w0.heap.size ≤ k) : Below w0.heap.size w0 w' := by
  obtain ⟨M', -, hT, h1, h2, h3, -⟩ := h
  exact ⟨h1.trans hb.os, h2.trans hb.tape, h3.trans hb.output, Nat.le_trans hb.size hT.size, fun k hk => (hT.same k (Nat.lt_of_lt_of_le hk hb.size) (fun hm => by have := hM k hm; omega)).trans (hb.block k hk)⟩
theorem mine_below {B : Nat} {M : Nat → Prop} {w W W' : World} (hb : Below w.heap.size w W) (h : Mine B M W W') (hB : w.heap.size ≤ B) : Below w.heap.size w W' :=
  ⟨h.os.trans hb.os, h.tape.trans hb.tape, h.output.trans hb.output, Nat.le_trans hb.size h.size, fun k hk => (h.same k (Nat.lt_of_lt_of_le hk hb.size) (.inl (by omega))).trans (hb.block k hk)⟩

theorem WrPost.cons {b : Nat} {l1 l2 : Bs} {M M2 : Nat → Prop} {w w1 w2 : World} (_hb : BM b l1 M2 w1) (hT : Turns M M2 w w1) (h1 : w1.os = w.os) (h2 : w1.tape = w.tape) (h3 : w1.output = w.output) (h4 : ∀ k, M2 k → M k ∨ k < w1.heap.size) (h : WrPost b l2 M2 w1 w2) : WrPost b l2 M w w2 := by
  obtain ⟨M3, k1, k2, k3, k4, k5, k6⟩ := h
  exact ⟨M3, k1, hT.trans k2, k3.trans h1, k4.trans h2, k5.trans h3, fun k hk => (k6 k hk).elim (fun x => (h4 k x).elim .inl (fun y => .inr (Nat.lt_of_lt_of_le y k2.size))) .inr⟩

/-- what stays true through the rounds -/
structure Nar (w : World) (gs : Nat) (t : Bs) (pre : List Bs) (M : Nat → Prop) (W : World) : Prop where
  bm : BM w.heap.size (bldW pre) M W
  bs : Bx W gs 9 #[.string (mkS t)]
  bf : Bx W (gs + 1) 217 #[.func (.func 187) #[] #[]]
  bl : Below w.heap.size w W
  mem : ∀ k, M k → k < W.heap.size ∧ w.heap.size ≤ k ∧ k ≠ gs ∧ k ≠ gs + 1
theorem Nar.mine {w W W' : World} {gs B : Nat} {t : Bs} {pre : List Bs} {M : Nat → Prop} (h : Nar w gs t pre M W) (hB : gs + 2 ≤ B) (hw : w.heap.size ≤ B) (hm : Mine B M W W') : Nar w gs t pre M W' :=
  ⟨h.bm.mine hm, (hm.same gs h.bs.lt (.inl (by omega))).trans h.bs, (hm.same (gs + 1) h.bf.lt (.inl (by omega))).trans h.bf, mine_below h.bl hm hw, fun k hk => ⟨Nat.lt_of_lt_of_le (h.mem k hk).1 hm.size, (h.mem k hk).2⟩⟩
theorem Nar.wrote {w W W' : World} {gs : Nat} {t : Bs} {pre pre' : List Bs} {M : Nat → Prop} {l : Bs} (h : Nar w gs t pre M W) (hp : WrPost w.heap.size l M W W') (hl : l = bldW pre') : ∃ M', Nar w gs t pre' M' W' ∧ Turns M M' W W' := by
  have hb := hp.below h.bl (fun k hk => (h.mem k hk).2.1)
  obtain ⟨M', h1, hT, -, -, -, h4⟩ := hp
  subst hl
  refine ⟨M', ⟨h1, (hT.same gs h.bs.lt (fun hm => (h.mem _ hm).2.2.1 rfl)).trans h.bs, (hT.same (gs + 1) h.bf.lt (fun hm => (h.mem _ hm).2.2.2 rfl)).trans h.bf, hb, fun k hk => ?_⟩, hT⟩
  have hlt1 := h.bs.lt
  have hlt2 := h.bf.lt
  have hsz := h.bl.size
  have hz := hT.size
  rcases hT.more k hk with hm | hm
  · obtain ⟨m1, m2, m3, m4⟩ := h.mem k hm
    exact ⟨by omega, m2, m3, m4⟩
  · refine ⟨(h4 k hk).elim (fun hm2 => Nat.lt_of_lt_of_le (h.mem k hm2).1 hz) id, by omega, by omega, by omega⟩

theorem ext_mid (n : Bs) : (mkS (46 :: (n ++ [46]))).extract 1 (n.length + 1) = mkS n := by
  rw [extract_mkS, bs_mkS]
  simp

set_option maxHeartbeats 8000000 in
set_option maxRecDepth 100000 in
theorem narrow_any (s : Bs) (w : World) (hT : Utf w) (hs : s.length ≤ 1099511627) :
    Calls Tryz.prog 119 #[.string (mkS s)] w fun e w' => e = .returned (.string (mkS (narL s))) ∧ Below w.heap.size w w' := by
  have HT := Lib.hid hT
  have htxt : (⟨#[46]⟩ : ByteArray) ++ mkS s ++ ⟨#[46]⟩ = mkS (46 :: (s ++ [46])) := by
    rw [show (⟨#[46]⟩ : ByteArray) = mkS [46] from rfl, mkS_append, mkS_append]; simp
  have htl : (46 :: (s ++ [46]) : Bs).length ≤ 1099511700 := by simp only [List.length_cons, List.length_append, List.length_nil]; omega
  have hbld := bld_fld s
  have hnl := narL_len s
  have hext := ext_mid (narL s)
  have hTl : (46 :: (narL s ++ [46]) : Bs).length = (narL s).length + 2 := by simp
  have hTs := size_mkS (46 :: (narL s ++ [46]))
  have HNL : Hid ((narL s).length ≤ 1099511627) := by show _ ≤ _; omega
  have HF : Hid (∀ (t : ByteArray) (W : World), CallsIn Fence.wide 4 Tryz.prog _ _ W _) := fun t W => callsIn_wide.2 (ffs_any t W)
  have HH := ffs1_hands
  have hB0 := BM.fresh w
  have hb0 : Below w.heap.size w (w.alloc (.cells #[.pointer none, .slice none 0 0] 110)) := (Below.refl _ _).alloc (Nat.le_refl _) _
  generalize h46 : (46 :: (s ++ [46]) : Bs) = t at *
  have HTX := Lib.hid htxt
  have HTL := Lib.hid htl
  have HBF := Lib.hid hbld
  have HEX := Lib.hid hext
  have HTl := Lib.hid hTl
  have HTs := Lib.hid hTs
  have HH1 := Lib.hid (fun gs gf => ffs1_hands gs gf t (Nat.le_trans htl (by decide)))
  have HB0 := Lib.hid hB0
  have Hb0 := Lib.hid hb0
  have hz0 : (w.alloc (.cells #[.pointer none, .slice none 0 0] 110)).heap.size = w.heap.size + 1 := by simp
  have hsz := size_mkS s
  clear hT htxt htl hbld hnl hext hTl hTs HH hB0 hb0 h46
  generalize hn : narL s = n at *
  generalize hTT : (46 :: (n ++ [46]) : Bs) = T at *
  clear hTT hn
  refine (callsIn_wide (n := 5)).1 ?_
  refine callsIn_of_wp_marks Tryz.func119 rfl trivial ?_ rfl
  simp only [Tryz.ntmps119, List.size_toArray, List.length_cons, List.length_nil, Nat.reduceAdd, Nat.reduceSub, Array.replicate_succ, Array.replicate_zero, List.push_toArray, List.append_toArray, List.nil_append, List.cons_append]
  have HZ0 := Lib.hid hz0
  clear hz0
  gi_wp2_with fail
  generalize w.alloc (.cells #[.pointer none, .slice none 0 0] 110) = W0 at *
  refine ⟨trivial, (HF.out _ _).mono ?_⟩
  rintro e w1 ⟨rfl, rfl⟩
  rw [HTX.out]
  have hbs := (Bx.new W0 9 #[.string (mkS t)]).later ((Below.refl _ _).alloc (Nat.le_refl _) (.cells #[.func (.func 187) #[] #[]] 217))
  have hbf := Bx.new (W0.alloc (.cells #[.string (mkS t)] 9)) 217 #[.func (.func 187) #[] #[]]
  have hb1 : Below W0.heap.size W0 ((W0.alloc (.cells #[.string (mkS t)] 9)).alloc (.cells #[.func (.func 187) #[] #[]] 217)) := ((Below.refl _ _).alloc (Nat.le_refl _) _).alloc (by simp) _
  have hz1 : ((W0.alloc (.cells #[.string (mkS t)] 9)).alloc (.cells #[.func (.func 187) #[] #[]] 217)).heap.size = W0.heap.size + 2 := by simp
  rw [World.size_alloc] at hbf
  have hbl := Hb0.out.trans (hb1.mono Hb0.out.size)
  have hbm := HB0.out.mine (B := 0) (Mine.below hb1)
  generalize (W0.alloc (.cells #[.string (mkS t)] 9)).alloc (.cells #[.func (.func 187) #[] #[]] 217) = W1 at *
  have hg0 := HZ0.out
  generalize W0.heap.size = gs at *
  have hN0 : Nar w gs t [] (fun k => k = w.heap.size) W1 := ⟨hbm, hbs, hbf, hbl, fun k hk => by subst hk; omega⟩
  have HN0 := Lib.hid hN0
  have HZ1 := Lib.hid hz1
  have HG0 := Lib.hid hg0
  clear hbs hbf hb1 hz1 hbl hbm hN0 hg0 HB0 Hb0
  gi_wp2_with fail
  have HHx := HH1.out gs (gs + 1)
  clear HH1
  refine range_m (gf := 242) (lb := #[.pointer (some ⟨gs, 0, none⟩), .pointer (some ⟨gs + 1, 0, none⟩)]) rfl (enters_of Tryz.func242 (by kernel_rfl) rfl) (fun _ => rfl) HHx
    (fun pre M W => Nar w gs t pre M W) ?known ?abides ?reads (fun k => k = w.heap.size) HN0.out (fun x => { tmps := #[.string (mkS s), undef, .string ⟨#[]⟩, .pointer (some ⟨w.heap.size, 0, none⟩), .string (mkS x), .string (mkS s), .string (⟨#[46]⟩ ++ mkS s), .string (mkS t), .func (.func 242) #[] #[.pointer (some ⟨gs, 0, none⟩), .pointer (some ⟨gs + 1, 0, none⟩)], .string (mkS x), undef, undef, undef, undef, undef, undef, undef, undef, undef], defers := [] }) ?assign ?body ?done
  case known => exact fun pre M W h k hk => (h.mem k hk).1
  case abides => exact fun pre M W W' h hm => h.mine (by have := HZ1.out; omega) (by have := HZ1.out; have := HG0.out; omega) hm
  case reads => exact fun pre M W h => ⟨h.bs, h.bf, HT.out.later h.bl⟩
  case assign =>
    intro lp m x W K hK
    unfold strE
    gi_wp2
    exact hK
  case body =>
    intro lp m pre x M W hN hpre
    have hlen := pre_len hpre
    have hxn : x ≠ [] := pieces_ne t [] x (hpre.subset (by simp))
    have hsn := bldW_snoc pre x
    have htl := HTL.out
    have HLen : Hid (∀ m : Nat, CallsIn (Fence.wide.inRound lp) m Tryz.prog _ _ W _) := fun m => (callsIn_wide.2 (lenM w.heap.size (bldW pre) M W hN.bm) : CallsIn Fence.wide m _ _ _ _ _)
    have HN := Lib.hid hN
    have hxs := size_mkS x
    by_cases h0 : bldW pre = []
    · have hW1 := fun m : Nat => (callsIn_wide.2 (writeStringM w.heap.size (bldW pre) M (mkS x) W hN.bm (by rw [size_mkS]; omega)) : CallsIn Fence.wide m _ _ _ _ _)
      rw [bs_mkS] at hW1
      have HW1 : Hid (∀ m : Nat, CallsIn (Fence.wide.inRound lp) m Tryz.prog _ _ W _) := fun m => hW1 m
      have hsn2 : bldW pre ++ x = bldW (pre ++ [x]) := by rw [hsn, h0]; unfold addW; rw [if_pos rfl]; rfl
      have HS2 := Lib.hid hsn2
      have hl0 : (bldW pre).length = 0 := by rw [h0]; rfl
      rw [hl0] at HLen
      clear hN hlen hxn hsn hpre hW1 hsn2 hl0 h0 htl
      gi_wp2_with fail
      refine ⟨trivial, fun h => absurd h (by decide), (HLen.out _).mono ?_⟩
      rintro e w2 ⟨rfl, rfl⟩
      gi_wp2_with fail
      refine ⟨trivial, fun h => absurd h (by decide), (HW1.out _).mono ?_⟩
      rintro e w3 ⟨rfl, hw⟩
      have HE := Lib.hid (HN.out.wrote hw HS2.out)
      clear hw
      gi_wp2_with fail
      exact HE.out
    · have hWb := fun m : Nat => (callsIn_wide.2 (writeByteM w.heap.size (bldW pre) M 32 W hN.bm (by omega)) : CallsIn Fence.wide m _ _ _ _ _)
      have HWb : Hid (∀ m : Nat, CallsIn (Fence.wide.inRound lp) m Tryz.prog _ _ W _) := fun m => hWb m
      have HWs : Hid (∀ (M2 : Nat → Prop) (W2 : World), BM w.heap.size (bldW pre ++ [32]) M2 W2 → ∀ m : Nat, CallsIn (Fence.wide.inRound lp) m Tryz.prog 124 #[.pointer (some ⟨w.heap.size, 0, none⟩), .string (mkS x)] W2 (fun e w' => e = .returned (.tuple #[.int .i64 (mkS x).size, .nilIface]) ∧ WrPost w.heap.size (bldW pre ++ [32] ++ x) M2 W2 w')) := fun M2 W2 hM2 m => by
        have h := (callsIn_wide.2 (writeStringM w.heap.size (bldW pre ++ [32]) M2 (mkS x) W2 hM2 (by rw [size_mkS]; simp only [List.length_append, List.length_cons, List.length_nil]; omega)) : CallsIn Fence.wide m _ _ _ _ _)
        rw [bs_mkS] at h
        exact h
      have hsn2 : bldW pre ++ [32] ++ x = bldW (pre ++ [x]) := by rw [hsn]; unfold addW; rw [if_neg h0]; simp
      have HS2 := Lib.hid hsn2
      have hl0 : (0 : Int) < ((bldW pre).length : Int) := by
        have : (bldW pre).length ≠ 0 := fun e => h0 (List.eq_nil_of_length_eq_zero e)
        omega
      clear hN hlen hxn hsn hpre hWb hsn2 h0 htl
      generalize hBl : (bldW pre).length = L at *
      have HBl := Lib.hid hBl
      clear hBl
      gi_wp2_with fail
      refine ⟨trivial, fun h => absurd h (by decide), (HLen.out _).mono ?_⟩
      rintro e w2 ⟨rfl, rfl⟩
      gi_wp2_with fail
      refine ⟨trivial, fun h => absurd h (by decide), (HWb.out _).mono ?_⟩
      rintro e w3 ⟨rfl, hw⟩
      obtain ⟨M2, hbm2, hT2, q1, q2, q3, q4⟩ := hw
      have HW2 := Lib.hid (HWs.out M2 w3 hbm2)
      have HC := Lib.hid (fun w4 h => WrPost.cons (l2 := bldW pre ++ [32] ++ x) (w2 := w4) hbm2 hT2 q1 q2 q3 q4 h)
      clear hbm2 hT2 q1 q2 q3 q4
      gi_wp2_with fail
      refine ⟨trivial, fun h => absurd h (by decide), (HW2.out _).mono ?_⟩
      rintro e w4 ⟨rfl, hw4⟩
      have HE := Lib.hid (HN.out.wrote (HC.out w4 hw4) HS2.out)
      clear hw4
      gi_wp2_with fail
      exact HE.out
  case done =>
    intro D M W hD hMD hN hd
    have hI := (hN.bm.base (B := w.heap.size) (fun k hk => (hN.mem k hk).2.1))
    rw [HBF.out] at hI
    have HStr := callsIn_wide (n := 4) |>.2 (Tryz.Builder_String_any_k w.heap.size w.heap.size T W (.of hI) hN.bl.size)
    have HD := Lib.hid hd
    have HStr2 : Hid (CallsIn Fence.wide 4 Tryz.prog _ _ W (fun e w' => e = .returned (.string (mkS T)) ∧ (Lib.IsBuilderF 110 5 w.heap.size w.heap.size (Lib.byteCells T) w' ∧ Below w.heap.size W w' ∧ Lib.OthersKept 5 (some w.heap.size) W w'))) := HStr
    have HN := Lib.hid hN
    have HLn : Hid (∀ W2 : World, Lib.IsBuilderF 110 5 w.heap.size w.heap.size (Lib.byteCells T) W2 → CallsIn Fence.wide 4 Tryz.prog _ _ W2 _) := fun W2 h => callsIn_wide.2 (Tryz.Builder_Len_f w.heap.size w.heap.size (Lib.byteCells T) W2 h)
    have hbc : (Lib.byteCells T).length = n.length + 2 := by rw [← HTl.out]; simp [Lib.byteCells]
    rw [hbc] at HLn
    obtain ⟨K, hK⟩ : ∃ K, K = n.length + 1 := ⟨_, rfl⟩
    have hex := HEX.out
    have hts : (mkS T).size = n.length + 2 := by rw [HTs.out, HTl.out]
    rw [← hK] at hex
    have hwK : IntKind.i64.wrap (((n.length + 2 : Nat) : Int) - 1) = (K : Int) := by rw [IntWalk.i64_in _ (by have := HNL.out; omega)]; omega
    have k1 : (1 : Int) ≤ (K : Int) := by omega
    have k2 : (K : Int) ≤ ((mkS T).size : Int) := by omega
    generalize n.length + 2 = L at *
    have HEX2 := Lib.hid hex
    clear hI HStr hN hd hbc hex hts hK HEX HTl HTs
    gi_wp2_with fail
    refine ⟨trivial, HStr2.out.mono ?_⟩
    rintro e w2 ⟨rfl, hIF, hb2, ho2⟩
    have HL2 := Lib.hid (HLn.out w2 hIF)
    have HB2 := Lib.hid hb2
    have HO2 := Lib.hid ho2
    clear hIF hb2 ho2
    gi_wp2_with fail
    refine ⟨trivial, HL2.out.mono ?_⟩
    rintro e w3 ⟨rfl, rfl⟩
    gi_wp2_with fail
    have hDs : w.heap.size < D := by have := HZ1.out; have := HG0.out; omega
    have hD2 : w3.heap[D]? = some (.deferred (some [])) := HO2.out D _ HD.out (by intro h; injection h with h; omega) (by intro c fz h; cases h)
    have hB3 : Below w.heap.size w w3 := HN.out.bl.trans HB2.out
    refine ⟨by simp, .inl ⟨_, _, rfl, run_takeDeferred hD2, ?_⟩⟩
    refine ⟨.string ((mkS T).extract 1 K), by simp [results, Tryz.results119, go_sem], by rw [HEX2.out], hB3.os, hB3.tape, hB3.output, by simp; exact hB3.size, fun k hk => (World.putObj_heap_other (by omega)).trans (hB3.block k hk)⟩
end Tk
end Go.Proofs.YthooghgiokgdhaaGreatDoor
namespace Go.Proofs.YthooghgiokgdhaaGreatDoor
open Go.RowKit Go.Sort
namespace Tk

/-- Vary -/
def nVary : Bs := [86, 97, 114, 121]
theorem sortS_any (g cap : Nat) (zs : List Bs) (w : World) (hH : Holds encStr w g 0 zs.toArray) (hlt : g < w.heap.size) (hz : zs.length < 4611686018427387904) :
    Calls Tryz.prog 116 #[.slice (some ⟨g, 0, none⟩) zs.length cap] w fun e w' => e = .returned (.tuple #[]) ∧ ∃ n os, w' = grow (putRow encStr (Sort.ahead w n) g 0 (ordL zs).toArray) os :=
  calls_of_every_depth fun D => AnyS.slices_Sort_string_alone Tryz.lays190 D g 0 cap zs w hH hlt hz
theorem strs_enc (P : List Bs) : P.map encStr = strs P := rfl

/-- the row, sorted and without neighbours that are alike -/
theorem left12 {w w1 : World} {g cap n nn q : Nat} {os : Array Obj} {ss : List Bs} (hown : w1.ownsRow w.heap.size 9 1 (.slice (some ⟨g, 0, none⟩) n cap) n (strs ss)) (hbel : Below w.heap.size w w1) (hbg : w.heap.size ≤ g) (hlen : ss.length = n) :
    (putRow encStr (Sort.ahead (grow (putRow encStr (Sort.ahead w1 nn) g 0 (ordL ss).toArray) os) q) g 0 (setL12 ss ++ List.replicate ((ordL ss).length - (setL12 ss).length) []).toArray).ownsRow w.heap.size 9 1 (.slice (some ⟨g, 0, none⟩) (setL12 ss).length cap) (setL12 ss).length (strs (setL12 ss)) ∧
      Below w.heap.size w (putRow encStr (Sort.ahead (grow (putRow encStr (Sort.ahead w1 nn) g 0 (ordL ss).toArray) os) q) g 0 (setL12 ss ++ List.replicate ((ordL ss).length - (setL12 ss).length) []).toArray) := by
  have hl2 := ord_len ss
  have hle := set_lenV ss
  subst hlen
  rw [hl2]
  rcases hown.2 with ⟨h0, _⟩ | ⟨g', cap', cur, hv, hbase, hb, h1, h2, h3, h4⟩
  · cases h0
  cases hv
  have hs := ownsRow_sorted (n := nn) (os := os) (ts := ordL ss) hl2 hbase hb h1 h2 h3
  have hc := Lib.ownsRow_putRow (q := q) (k := (setL12 ss).length) (ys := setL12 ss ++ List.replicate (ss.length - (setL12 ss).length) []) hs (by simp; omega) (by omega)
  rw [List.take_left] at hc
  exact ⟨hc, Lib.below_putRow (hbel.grown (grownBy_sorted _) hbel.size (fun j hj => by cases hj; exact hbase)) hbg⟩

theorem star_take (Q : List Bs) (i : Nat) (h : i < Q.length) (h1 : [42] ∉ Q.take i) (h2 : Q.getD i [] ≠ [42]) : [42] ∉ Q.take (i + 1) := by
  rw [List.take_succ_eq_append_getElem h]
  have : Q.getD i [] = Q[i] := by simp [List.getD, h]
  rw [this] at h2
  intro hm
  rw [List.mem_append, List.mem_singleton] at hm
  exact hm.elim h1 (fun e => h2 e.symm)
theorem low_take (Q : List Bs) (i : Nat) (h : i < Q.length) : (Q.take (i + 1)).map lowL = (Q.take i).map lowL ++ [lowL (Q.getD i [])] := by
  rw [List.take_succ_eq_append_getElem h, List.map_append]
  simp [List.getD, h]

/-- what Names leaves: Q the parts -/
def NamPost (Q : List Bs) (w : World) (e : Ending) (w' : World) : Prop :=
  ∃ v, e = .returned (.tuple #[v, .bool (decide ([42] ∈ Q))]) ∧ w'.ownsRow w.heap.size 9 1 v (nmsV Q).length (strs (nmsV Q)) ∧ Below w.heap.size w w'

set_option maxHeartbeats 8000000 in
set_option maxRecDepth 100000 in
theorem names_any (v : Value) (l : List (Bs × Bs)) (w : World) (hs : IsFlds w v l) (hz : sumF l ≤ 1000000) (hl : l.length ≤ 1048576) :
    Calls Tryz.prog 60 #[v] w (NamPost (listF l nVary) w) := by
  obtain ⟨i0, hi0, hz0, hz1, hz2⟩ := info_parts strInfo
  have HA := Lib.hid (flist_any v l nVary w hs hz (by decide) hl)
  unfold ListPost at HA
  have hln := listF_len nVary l
  have hpc := Lib.hid (fun p hp => Nat.le_trans (listF_piece nVary l p hp) hz)
  have hQl : (listF l nVary).length ≤ 1000000 := by omega
  obtain ⟨a, cap, rfl⟩ : ∃ a cap, v = .slice a l.length cap := by obtain ⟨a, c, h, -⟩ := hs; exact ⟨a, c, h⟩
  clear hs hz hln
  generalize listF l nVary = Q at *
  unfold nVary at HA
  unfold NamPost
  go_enter Tryz.func60, Tryz.ntmps60
  go_wp2_with fail
  refine HA.out.mono ?_
  rintro e w1 ⟨v1, rfl, ho, hb⟩
  have HB1 := Lib.hid hb
  have HS := Lib.hid (isStrs_own ho)
  have HLt := Lib.hid (fun k e => (ho.lt k e).2)
  obtain ⟨a1, c1, rfl⟩ : ∃ a c, v1 = .slice a Q.length c := by obtain ⟨a, c, h, -⟩ := isStrs_own ho; exact ⟨a, c, h⟩
  clear ho hb
  go_wp2_with fail
  go_loopw [2, 9] (fun v2 vi wr => ∃ i : Nat, i ≤ Q.length ∧ vi = .int .i64 i ∧ Hid ([42] ∉ Q.take i) ∧ Hid (wr.ownsRow w1.heap.size 9 1 v2 ((Q.take i).map lowL).length (strs ((Q.take i).map lowL))) ∧ Hid (Below w1.heap.size w1 wr)) (fun _ vi _ => Q.length - (RowKit.intOf vi).toNat)
  case atStart => exact ⟨0, Nat.zero_le _, rfl, by show _ ∉ _; simp, World.ownsRow_nil _ _ _ _, Below.refl _ _⟩
  case round =>
    obtain ⟨i, hi, rfl, HSt, HO, HB⟩ := hrel
    rename World => W
    by_cases hlt : i < Q.length
    · obtain ⟨a', c', e', hc⟩ := isStrs_later HS.out HB.out HLt.out
      injection e' with e1 _ e2
      subst e1 e2
      obtain ⟨b, o, rfl, hc⟩ := hc i (Q.getD i []) (by simp [List.getD, hlt])
      have hm := hpc.out (Q.getD i []) (by simp [List.getD, hlt])
      have hlt2 := low_take Q i hlt
      have HLT := Lib.hid hlt2
      have HST := Lib.hid (fun h2 => star_take Q i hlt HSt.out h2)
      have hmem : Q.getD i [] ∈ Q := by simp [List.getD, hlt]
      have HMm := Lib.hid hmem
      have hrl : ((Q.take i).map lowL).length ≤ 1000000 := by rw [List.length_map, List.length_take]; omega
      have g0 : (0 : Int) ≤ (i : Int) := by omega
      have g1 : (i : Int) < (Q.length : Int) := by omega
      clear hlt2 hmem
      generalize Q.getD i [] = x at *
      have hbq : ((mkS x).toList == ([42] : List UInt8)) = decide (x = [42]) := by rw [toList_bs, bs_mkS, Bool.eq_iff_iff, beq_iff_eq, decide_eq_true_eq]
      by_cases hx : x = [42]
      · rw [decide_eq_true hx] at hbq
        have hmm : [42] ∈ Q := hx ▸ HMm.out
        have hd : decide ([42] ∈ Q) = true := decide_eq_true hmm
        have hnm : nmsV Q = [] := by unfold nmsV; rw [if_pos hmm]
        have HD := Lib.hid hd
        have HNM := Lib.hid hnm
        have HBF := Lib.hid (HB1.out.trans (HB.out.mono HB1.out.size))
        clear hd hnm hx hmm
        go_wp2_with fail
        go_ret2
        refine ⟨.slice none 0 0, by rw [HD.out]; rfl, ?_, HBF.out⟩
        rw [HNM.out]
        exact World.ownsRow_nil _ _ _ _
      · rw [decide_eq_false hx] at hbq
        have HST2 := Lib.hid (HST.out hx)
        have HLo := Lib.hid (fun W : World => tlower_any (mkS x) W (by rw [size_mkS]; omega))
        rw [bs_mkS] at HLo
        clear hx
        generalize (Q.take i).map lowL = R at *
        generalize lowL x = u at *
        go_wp2_with fail
        refine (HLo.out _).mono ?_
        rintro e w6 ⟨rfl, hb⟩
        have hown' := own_keep HO.out hb
        have hB' : w1.heap.size ≤ w6.heap.size := Nat.le_trans HB.out.size hb.size
        have HB6 := Lib.hid (HB.out.trans (hb.mono HB.out.size))
        clear hb
        go_wp2_with (at_builtin; refine wpList_append_own _ rfl _ _ 26 rfl w1.heap.size 9 i0 (.string .empty) 1 16 Tryz.underlying26 hi0 hz0 hz1 hz2 rfl (by decide) _ _ _ rfl (hown'.alloc _) ⟨w6.heap.size, 0, none⟩ 1 1 [.string (mkS u)] rfl rfl ?c1 ?c2 ?c3 ?c4 ?c5 ?_)
        case c1 => exact cell_one_new _ _ _
        case c2 => simp [Value.oneCell']
        case c3 => unfold maxLen; omega
        case c4 => omega
        case c5 => simp; omega
        intro v' w7 hown1 hg1 _
        have hb1 : Below w1.heap.size w1 w7 := HB6.out.trans (((Below.refl w1.heap.size w6).alloc hB' _).trans (below_of_grown hg1 (hown'.alloc _) (by simp; omega)))
        have HB7 := Lib.hid hb1
        have HO7 := Lib.hid hown1
        clear hb1 hown1 hg1 hown'
        go_wp2_with fail
        refine ⟨⟨i + 1, hlt, by go_num, HST2, ?_, HB7⟩, by simp [RowKit.intOf]; omega⟩
        show World.ownsRow _ _ _ _ _ _ _
        rw [HLT.out, List.length_append, strs_append]
        exact HO7.out
    · have hil : Q.take i = Q := List.take_of_length_le (by omega)
      rw [hil] at HO HSt
      have hd : decide ([42] ∈ Q) = false := decide_eq_false HSt.out
      have hnm : nmsV Q = setL12 (Q.map lowL) := by unfold nmsV; rw [if_neg HSt.out]
      have HD := Lib.hid hd
      have HNM := Lib.hid hnm
      have HBF := Lib.hid (HB1.out.trans (HB.out.mono HB1.out.size))
      have HOF := Lib.hid (World.ownsRow.mono HO.out HB1.out.size)
      have hRl : (Q.map lowL).length ≤ 1000000 := by rw [List.length_map]; exact hQl
      clear hil hd hnm
      generalize Q.map lowL = R at *
      rcases HOF.out.2 with ⟨hv, hn⟩ | ⟨g, cap2, cur, hv, hbase, hg, hc1, hc2, -⟩
      · obtain rfl : R = [] := List.eq_nil_of_length_eq_zero hn
        subst hv
        have HSo := Lib.hid (Tryz.slices_Sort_string_none none 0 W)
        have HCo := Lib.hid (fun W2 => Tryz.slices_Compact_string_empty none 0 W2)
        have hse : setL12 [] = [] := by
          have := set_lenV []
          exact List.eq_nil_of_length_eq_zero (by simpa using this)
        rw [hse] at HNM
        clear hse hn
        go_wp2_with fail
        refine HSo.out.mono ?_
        rintro e w2 ⟨rfl, rfl⟩
        go_wp2_with fail
        refine (HCo.out _).mono ?_
        rintro e w3 ⟨rfl, rfl⟩
        go_wp2_with fail
        go_ret2
        refine ⟨.slice none 0 0, by rw [HD.out]; rfl, ?_, HBF.out⟩
        rw [HNM.out]
        exact World.ownsRow_nil _ _ _ _
      · subst hv
        have hgl : g < W.heap.size := (Array.getElem?_eq_some_iff.1 hg).1
        obtain ⟨g', cap', hv', -, -, hcap, hcm, hlen, hH⟩ := Lib.holds_of_ownsRow (enc := encStr) (zs := R) HOF.out (by intro h; cases h)
        injection hv' with e1 _ e2
        injection e1 with e1
        injection e1 with e1
        subst e1 e2
        have HSo := Lib.hid (sortS_any g cap2 R W hH hgl (by omega))
        have HCo : Hid (∀ n os, Calls Tryz.prog 117 #[.slice (some ⟨g, 0, none⟩) R.length cap2] (grow (putRow encStr (Sort.ahead W n) g 0 (ordL R).toArray) os) fun e w' => e = .returned (.slice (some ⟨g, 0, none⟩) (setL12 R).length cap2) ∧ ∃ q, w' = putRow encStr (Sort.ahead (grow (putRow encStr (Sort.ahead W n) g 0 (ordL R).toArray) os) q) g 0 (setL12 R ++ List.replicate ((ordL R).length - (setL12 R).length) []).toArray) := fun n os => by
          have hH2 : Holds encStr (grow (putRow encStr (Sort.ahead W n) g 0 (ordL R).toArray) os) g 0 (ordL R).toArray :=
            holds_grow encStr _ os g 0 _ (by simpa [putRow, mapBlock, Sort.ahead] using hgl) (holds_putRow encStr _ g 0 _ _ (holds_ahead encStr W n g 0 _ hH) (by simp [ord_len]))
          have h := Tryz.slices_Compact_string g 0 cap2 (ordL R) _ hH2 (by rw [ord_len]; omega) (by rw [ord_len]; omega)
          rw [ord_len] at h
          rw [ord_len]
          exact h
        have HLe := Lib.hid (fun nn os q => left12 (nn := nn) (os := os) (q := q) HOF.out HBF.out hbase rfl)
        clear hH hgl hcap hcm hlen hg hc1 hc2 hbase HO HOF
        go_wp2_with fail
        refine HSo.out.mono ?_
        rintro e w2 ⟨rfl, nn, os, hw2⟩
        have HW2 := Lib.hid hw2
        have HC2 := HCo.out nn os
        rw [← hw2] at HC2
        have HC3 := Lib.hid HC2
        clear hw2 HC2
        go_wp2_with fail
        refine HC3.out.mono ?_
        rintro e w3 ⟨rfl, q, hw3⟩
        rw [HW2.out] at hw3
        have HL3 := HLe.out nn os q
        rw [← hw3] at HL3
        have HL4 := Lib.hid HL3
        clear hw3 HL3
        go_wp2_with fail
        go_ret2
        refine ⟨_, by rw [HD.out]; rfl, ?_, HL4.out.2⟩
        rw [HNM.out]
        exact HL4.out.1
end Tk
end Go.Proofs.YthooghgiokgdhaaGreatDoor
namespace Go.Proofs.YthooghgiokgdhaaGreatDoor
namespace Tk

def maxN : Nat := 9007199254740991
def isDig (c : UInt8) : Bool := decide (48 ≤ c.toNat) && decide (c.toNat ≤ 57)
def numGo : Nat → Bs → Nat × Nat
  | n, [] => if maxN < n then (0, 3) else (n, 0)
  | n, c :: t => if isDig c = true then numGo (if n ≤ maxN then n * 10 + (c.toNat - 48) else n) t else (0, 4)
def numL (l : Bs) : Nat × Nat := if l = [] then (0, 4) else numGo 0 l

def digL (n : Nat) : Bs := if h : n < 10 then [UInt8.ofNat (48 + n)] else digL (n / 10) ++ [UInt8.ofNat (48 + n % 10)]
def valFrom (a : Nat) (l : Bs) : Nat := l.foldl (fun a c => a * 10 + (c.toNat - 48)) a

theorem valFrom_ge : ∀ (l : Bs) (a : Nat), a ≤ valFrom a l
  | [], a => Nat.le_refl _
  | c :: t, a => by
    have := valFrom_ge t (a * 10 + (c.toNat - 48))
    show a ≤ valFrom (a * 10 + (c.toNat - 48)) t
    omega
theorem numGo_val : ∀ (l : Bs) (n : Nat), (∀ c ∈ l, isDig c = true) → numGo n l = if maxN < valFrom n l then (0, 3) else (valFrom n l, 0)
  | [], n, _ => rfl
  | c :: t, n, h => by
    have hc : isDig c = true := h c (by simp)
    have ht : ∀ x ∈ t, isDig x = true := fun x hx => h x (by simp [hx])
    rw [numGo, if_pos hc]
    by_cases hn : n ≤ maxN
    · rw [if_pos hn, numGo_val t _ ht]; rfl
    · rw [if_neg hn, numGo_val t n ht]
      have h1 := valFrom_ge t n
      have h2 : n ≤ valFrom n (c :: t) := valFrom_ge (c :: t) n
      rw [if_pos (by omega), if_pos (by omega)]
theorem numGo_bad : ∀ (l : Bs) (n : Nat), (∃ c ∈ l, isDig c = false) → numGo n l = (0, 4)
  | [], n, h => by simp at h
  | c :: t, n, h => by
    by_cases hc : isDig c = true
    · rw [numGo, if_pos hc]
      refine numGo_bad t _ ?_
      obtain ⟨x, hx, hb⟩ := h
      rcases List.mem_cons.1 hx with rfl | hx
      · rw [hc] at hb; cases hb
      · exact ⟨x, hx, hb⟩
    · rw [numGo, if_neg hc]

theorem dig_toNat (d : Nat) (h : d < 10) : (UInt8.ofNat (48 + d)).toNat = 48 + d := by rw [UInt8.toNat_ofNat']; omega
theorem isDig_ofNat (d : Nat) (h : d < 10) : isDig (UInt8.ofNat (48 + d)) = true := by
  unfold isDig; rw [dig_toNat d h]; simp; omega
theorem digL_small (n : Nat) (h : n < 10) : digL n = [UInt8.ofNat (48 + n)] := by rw [digL, dif_pos h]
theorem digL_big (n : Nat) (h : ¬ n < 10) : digL n = digL (n / 10) ++ digL (n % 10) := by
  rw [digL, dif_neg h, digL_small (n % 10) (by omega)]
theorem digL_digits : ∀ (k n : Nat), n ≤ k → ∀ c ∈ digL n, isDig c = true
  | 0, n, h => by
    rw [digL_small n (by omega)]
    intro c hc
    rw [List.mem_singleton] at hc
    subst hc
    exact isDig_ofNat n (by omega)
  | k + 1, n, h => by
    by_cases hn : n < 10
    · rw [digL_small n hn]
      intro c hc
      rw [List.mem_singleton] at hc
      subst hc
      exact isDig_ofNat n hn
    · rw [digL_big n hn]
      intro c hc
      rcases List.mem_append.1 hc with hc | hc
      · exact digL_digits k (n / 10) (by omega) c hc
      · exact digL_digits k (n % 10) (by omega) c hc
theorem valFrom_append (a : Nat) (l m : Bs) : valFrom a (l ++ m) = valFrom (valFrom a l) m := by simp [valFrom]
theorem valFrom_dig : ∀ (k n : Nat), n ≤ k → valFrom 0 (digL n) = n
  | 0, n, h => by
    rw [digL_small n (by omega)]
    show 0 * 10 + ((UInt8.ofNat (48 + n)).toNat - 48) = n
    rw [dig_toNat n (by omega)]; omega
  | k + 1, n, h => by
    by_cases hn : n < 10
    · rw [digL_small n hn]
      show 0 * 10 + ((UInt8.ofNat (48 + n)).toNat - 48) = n
      rw [dig_toNat n hn]; omega
    · rw [digL_big n hn, valFrom_append, valFrom_dig k (n / 10) (by omega), digL_small (n % 10) (by omega)]
      show n / 10 * 10 + ((UInt8.ofNat (48 + n % 10)).toNat - 48) = n
      rw [dig_toNat (n % 10) (by omega)]; omega
theorem valFrom_zeros : ∀ k, valFrom 0 (List.replicate k 48) = 0
  | 0 => rfl
  | k + 1 => by
    rw [List.replicate_succ]
    show valFrom 0 (List.replicate k 48) = 0
    exact valFrom_zeros k
theorem digL_ne (n : Nat) : digL n ≠ [] := by
  rw [digL]; split <;> simp

/-- the first half of the law -/
theorem num_zeros (k n : Nat) : numL (List.replicate k 48 ++ digL n) = if maxN < n then (0, 3) else (n, 0) := by
  unfold numL
  rw [if_neg (by simp [digL_ne]), numGo_val _ _ ?_, valFrom_append, valFrom_zeros, valFrom_dig n n (Nat.le_refl _)]
  intro c hc
  rcases List.mem_append.1 hc with hc | hc
  · rw [List.mem_replicate] at hc; rw [hc.2]; rfl
  · exact digL_digits n n (Nat.le_refl _) c hc
/-- the second half -/
theorem num_bad (l m : Bs) (c : UInt8) (h : isDig c = false) : numL (l ++ [c] ++ m) = (0, 4) := by
  unfold numL
  rw [if_neg (by simp), numGo_bad _ _ ⟨c, by simp, h⟩]
theorem digL_len : ∀ (k n : Nat), n < 10 ^ (k + 1) → (digL n).length ≤ k + 1
  | 0, n, h => by rw [digL_small n (by omega)]; simp
  | k + 1, n, h => by
    by_cases hn : n < 10
    · rw [digL_small n hn]; simp
    · rw [digL_big n hn, List.length_append, digL_small (n % 10) (by omega)]
      have := digL_len k (n / 10) (by rw [Nat.pow_succ] at h; omega)
      simp; omega
end Tk
end Go.Proofs.YthooghgiokgdhaaGreatDoor
namespace Go.Proofs.YthooghgiokgdhaaGreatDoor
namespace Tk

/-- what a list of values of one name says: P its values -/
def valV (P : List Bs) : Bs := if P = [] then [45] else 43 :: Lib.join (P.map narL) [44, 32]
/-- one name's part of a key -/
def entV (n v : Bs) : Bs := lowL n ++ (58 :: (digL v.length ++ (58 :: (v ++ [10]))))
def keyV (f : Bs → Bs) (names : List Bs) : Bs := names.flatMap fun n => entV n (f n)
def matV (f g : Bs → Bs) (names : List Bs) : Bool := names.all fun n => f n == g n

theorem dig_no58 (n : Nat) : ∀ c ∈ digL n, c ≠ 58 := by
  intro c hc e
  have h := digL_digits n n (Nat.le_refl _) c hc
  subst e
  revert h
  decide
theorem digL_inj (a b : Nat) (h : digL a = digL b) : a = b := by
  have h1 := valFrom_dig a a (Nat.le_refl _)
  rw [h, valFrom_dig b b (Nat.le_refl _)] at h1
  exact h1.symm
theorem split58 : ∀ (a b x y : Bs), (∀ c ∈ a, c ≠ 58) → (∀ c ∈ b, c ≠ 58) → a ++ 58 :: x = b ++ 58 :: y → a = b ∧ x = y
  | [], [], x, y, _, _, h => by simpa using h
  | [], d :: b, x, y, _, hb, h => by
    simp only [List.nil_append, List.cons_append, List.cons.injEq] at h
    exact absurd h.1.symm (hb d (by simp))
  | c :: a, [], x, y, ha, _, h => by
    simp only [List.nil_append, List.cons_append, List.cons.injEq] at h
    exact absurd h.1 (ha c (by simp))
  | c :: a, d :: b, x, y, ha, hb, h => by
    simp only [List.cons_append, List.cons.injEq] at h
    obtain ⟨h1, h2⟩ := split58 a b x y (fun c hc => ha c (by simp [hc])) (fun c hc => hb c (by simp [hc])) h.2
    exact ⟨by rw [h.1, h1], h2⟩
theorem ent_inj (n v v' r r' : Bs) (h : entV n v ++ r = entV n v' ++ r') : v = v' ∧ r = r' := by
  unfold entV at h
  simp only [List.append_assoc, List.cons_append, List.append_cancel_left_eq, List.cons.injEq, true_and] at h
  obtain ⟨h1, h2⟩ := split58 _ _ _ _ (dig_no58 _) (dig_no58 _) h
  have h3 := digL_inj _ _ h1
  have h4 := List.append_inj h2 h3
  simp only [List.cons.injEq, true_and, List.nil_append] at h4
  exact h4
theorem key_iff (f g : Bs → Bs) : ∀ (names : List Bs), keyV f names = keyV g names ↔ matV f g names = true
  | [] => by simp [keyV, matV]
  | n :: t => by
    have ih := key_iff f g t
    unfold keyV matV at *
    rw [List.flatMap_cons, List.flatMap_cons, List.all_cons, Bool.and_eq_true, beq_iff_eq]
    constructor
    · intro h
      obtain ⟨h1, h2⟩ := ent_inj n _ _ _ _ h
      exact ⟨h1, ih.1 h2⟩
    · rintro ⟨h1, h2⟩
      rw [h1, ih.2 h2]
theorem mkS_eq (a b : Bs) : (mkS a = mkS b) = (a = b) := propext ⟨mkS_inj, fun h => by rw [h]⟩
theorem key_dec (f g : Bs → Bs) (names : List Bs) : decide (mkS (keyV f names) = mkS (keyV g names)) = matV f g names := by
  rw [Bool.eq_iff_iff, decide_eq_true_eq, ← key_iff]
  exact ⟨mkS_inj, fun h => by rw [h]⟩
theorem mat_symm (f g : Bs → Bs) (names : List Bs) : matV g f names = matV f g names := by
  unfold matV
  rw [Bool.eq_iff_iff, List.all_eq_true, List.all_eq_true]
  constructor <;> intro h x hx <;> have := h x hx <;> rw [beq_iff_eq] at * <;> exact this.symm
theorem mat_refl (f : Bs → Bs) (names : List Bs) : matV f f names = true := by
  unfold matV; rw [List.all_eq_true]; intro x _; exact beq_self_eq_true _
theorem mat_sub (f g : Bs → Bs) (a b : List Bs) (h : ∀ x ∈ b, x ∈ a) (hm : matV f g a = true) : matV f g b = true := by
  unfold matV at *
  rw [List.all_eq_true] at *
  exact fun x hx => hm x (h x hx)
theorem key_snoc (f : Bs → Bs) (L : List Bs) (n : Bs) : keyV f (L ++ [n]) = keyV f L ++ entV n (f n) := by
  simp [keyV]
theorem val_len (P : List Bs) : (valV P).length ≤ Lib.lens P + 2 * P.length + 1 := by
  unfold valV
  split
  · simp
  · have h : ∀ Q : List Bs, (Lib.join (Q.map narL) [44, 32]).length ≤ Lib.lens Q + 2 * Q.length := by
      intro Q
      induction Q with
      | nil => simp [Lib.join]
      | cons x t ih =>
        have h1 := narL_len x
        cases t with
        | nil => simp [Lib.join, Lib.lens]; omega
        | cons y t => simp [Lib.join, Lib.lens] at ih ⊢; omega
    have := h P
    simp only [List.length_cons]; omega
end Tk
end Go.Proofs.YthooghgiokgdhaaGreatDoor
