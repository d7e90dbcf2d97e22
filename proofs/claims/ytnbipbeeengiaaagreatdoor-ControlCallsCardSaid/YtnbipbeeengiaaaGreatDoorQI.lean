/- CtG, put together. -/
import Derived.Test.YtnbipbeeengiaaaGreatDoorQH
import Derived.Test.YtnbipbeeengiaaaGreatDoorQE
import Derived.Lib.AppendIntMem
import Derived.Lib.ItoaMem
import Derived.WalkSmall
namespace Go.Proofs.YtnbipbeeengiaaaGreatDoor
open Go.RowKit
namespace Tk

theorem decC : ∀ (k u : Nat), u ≤ k → Lib.decDigits u = digL u
  | 0, u, h => by
    rw [Lib.decDigits, digL, dif_pos (by omega), dif_pos (by omega)]
  | k + 1, u, h => by
    by_cases hu : u < 10
    · rw [Lib.decDigits, digL, dif_pos hu, dif_pos hu]
    · rw [Lib.decDigits, digL, dif_neg hu, dif_neg hu, decC k (u / 10) (by omega)]
/-- the table of powers of ten lies as its initialiser lays it -/
structure TenC (w : World) : Prop where
  big : 0 < w.heap.size
  tab : Lib.TabIs Tryz.prog w "internal/strconv.uint64pow10" .u64 Lib.pow10Tab
theorem gTenC : Tryz.prog.globalNamed "internal/strconv.uint64pow10" = some 0 := by kernel_rfl
theorem TenC.later {w w' : World} (h : TenC w) (hb : Below w.heap.size w w') : TenC w' :=
  ⟨Nat.lt_of_lt_of_le h.big hb.size, var?_below hb gTenC h.big h.tab⟩
theorem fmt_any (n : Nat) (w : World) (hT : TenC w) (hn : n ≤ 9223372036854775807) :
    Calls Tryz.prog 71 #[.int .i64 (n : Int), .int .i64 10] w fun e w' => e = .returned (.string (mkS (digL n))) ∧ Below w.heap.size w w' :=
  (Tryz.strconv_FormatInt_10 (n : Int) (by omega) (by omega) w hT.tab).mono fun _ _ ⟨h1, k, os, h2⟩ => ⟨by rw [h1, Lib.itoa_nonneg, decC n n (Nat.le_refl _)]; rfl, h2 ▸ Lib.below_grow _ _ (Nat.le_refl _) _ _⟩

theorem map_mkSC : ∀ (P : List Bs), (P.map mkS).map (·.data.toList) = P
  | [] => rfl
  | x :: t => by rw [List.map_cons, List.map_cons, map_mkSC t]; rfl
theorem jnoneC_any (c : Nat) (a : Option Addr) (w : World) :
    Calls Tryz.prog 73 #[.slice a 0 c, .string ⟨#[44, 32]⟩] w fun e w' => e = .returned (.string ⟨#[]⟩) ∧ Below w.heap.size w w' := by
  go_enter Tryz.func73, Tryz.ntmps73
  go_wp2_with fail
  go_ret
  exact ⟨rfl, Below.refl _ _⟩
theorem joinC_any (v : Value) (P : List Bs) (base : Nat) (w : World) (ho : w.ownsRow base 9 1 v P.length (strs P)) (hP : P.length ≤ 1048576) (hj : (Lib.join P [44, 32]).length ≤ 1099511627776) :
    Calls Tryz.prog 73 #[v, .string ⟨#[44, 32]⟩] w fun e w' => e = .returned (.string (mkS (Lib.join P [44, 32]))) ∧ Below w.heap.size w w' := by
  rcases ho.2 with ⟨hv, hn⟩ | ⟨g, cap, cur, hv, hb, hg, hcap, -⟩
  · have hP0 : P = [] := List.eq_nil_of_length_eq_zero hn
    subst hP0
    rw [hv]
    exact jnoneC_any 0 none w
  · have hcells : ∀ (j : Nat) (x : ByteArray), (P.map mkS)[j]? = some x → w.cell? ⟨g, 0 + j, none⟩ = some (.string x) := by
      intro j x hx
      rw [List.getElem?_map] at hx
      obtain ⟨t, ht, rfl⟩ := Option.map_eq_some_iff.1 hx
      obtain ⟨a, c, e, hc⟩ := isStrs_own ho
      rw [hv] at e
      injection e with e1 _ _
      obtain ⟨b, o, e3, hc⟩ := hc j t ht
      rw [← e1] at e3
      injection e3 with e3
      injection e3 with e4 e5
      subst e4 e5
      exact hc
    have hlt := (ho.lt g (by rw [hv]; rfl)).2
    have h := Tryz.strings_Join g 0 cap (P.map mkS) ⟨#[44, 32]⟩ w hcells hlt (by rw [List.length_map]; omega) (by rw [List.length_map]; exact hcap) (by rw [map_mkSC]; exact Nat.le_trans hj (by omega))
    rw [map_mkSC, List.length_map] at h
    rw [hv]
    exact h

theorem addC_run {W : World} {o : Oper} {a : Act} {K : Act → World → Prop} {Q : Exit → Act → World → Prop} (s x : Operand)
    (ho : o.op = .call { callee := .builtin .append, args := #[s, x], argTypes := #[26, 26] })
    (base : Nat) (v : Value) (P : List Bs) (t : Bs) (hs : a.eval s = v) (hx : a.eval x = .slice (some ⟨W.heap.size, 0, none⟩) 1 1) (h1 : W.ownsRow base 9 1 v P.length (strs P)) (hB : base ≤ W.heap.size) (hP : P.length ≤ 1048576)
    (h : ∀ v' w', w'.ownsRow base 9 1 v' (P ++ [t]).length (strs (P ++ [t])) → (W.alloc (.cells #[.string (mkS t)] 9)).grownBy w' v.ownBlock → K (a.put o.dst v') w') :
    o.wp Tryz.prog a (W.alloc (.cells #[.string (mkS t)] 9)) K Q := by
  obtain ⟨i0, hi, hz0, hz1, hz2⟩ := info_parts strInfo
  refine wp_append_own (P := Tryz.prog) _ s x 26 ho base 9 i0 (.string .empty) 1 16 Tryz.underlying26 hi hz0 hz1 hz2 rfl (by decide) v P.length (strs P) hs (h1.alloc _) ⟨W.heap.size, 0, none⟩ 1 1 [.string (mkS t)] hx rfl (cell_one_new _ _ _) (by simp [Value.oneCell']) (by unfold maxLen; omega) (by omega) (by simp; omega) ?_
  intro v' w' ho' hg' _
  refine h v' w' ?_ hg'
  rw [List.length_append, strs_append]
  exact ho'
theorem step_addC {ops : Array Oper} {W : World} {o : Oper} {a : Act} {K : Act → World → Prop} {Q : Exit → Act → World → Prop} {E : Prop} (hgd : o.guard = none) (s x : Operand)
    (ho : o.op = .call { callee := .builtin .append, args := #[s, x], argTypes := #[26, 26] })
    (base : Nat) (v : Value) (P : List Bs) (t : Bs) (hs : a.eval s = v) (hx : a.eval x = .slice (some ⟨W.heap.size, 0, none⟩) 1 1) (h1 : W.ownsRow base 9 1 v P.length (strs P)) (hB : base ≤ W.heap.size) (hP : P.length ≤ 1048576)
    (h : ∀ v' w', w'.ownsRow base 9 1 v' (P ++ [t]).length (strs (P ++ [t])) → (W.alloc (.cells #[.string (mkS t)] 9)).grownBy w' v.ownBlock → K (a.put o.dst v') w') :
    if Region.wanted o (yielded ops a.tmps) = true then Oper.wp Tryz.prog o a (W.alloc (.cells #[.string (mkS t)] 9)) K Q else E := by
  have hw : Region.wanted o (yielded ops a.tmps) = true := by simp [Region.wanted, hgd]
  rw [if_pos hw]
  exact addC_run s x ho base v P t hs hx h1 hB hP h
theorem bx_not_row {w : World} {B g n k : Nat} {T e : TypeId} {cs : Array Value} {v : Value} {xs : List Value} (hb : Bx w g T cs) (h : w.ownsRow B e k v n xs) (hT : T ≠ e) : v.ownBlock ≠ some g := by
  intro hv
  rcases h.2 with ⟨h2, -⟩ | ⟨g2, cap, cur, h2, -, hg, -⟩
  · rw [h2] at hv; cases hv
  · rw [h2] at hv
    injection hv with hv
    subst hv
    have e3 := hg.symm.trans hb
    injection e3 with e3
    injection e3 with _ e4 _
    exact hT e4.symm
theorem below_add {w W w' : World} {B : Nat} {t : Bs} {v : Value} {n : Nat} {xs : List Value} (hb : Below B w W) (hB : B ≤ w.heap.size) (h1 : W.ownsRow B 9 1 v n xs) (hg : (W.alloc (.cells #[.string (mkS t)] 9)).grownBy w' v.ownBlock) : Below B w w' :=
  (hb.alloc (Nat.le_trans hB hb.size) _).trans (below_of_grown hg (h1.alloc _) (by rw [World.size_alloc]; have := hb.size; omega))

theorem sizeC_sum (nm : Bs) (u : Nat) (h1 : (mkS nm).size ≤ 30) (h2 : (mkS (digL u)).size ≤ 19) : ¬ 9223372036854775807 < (mkS nm).size + 1 + (mkS (digL u)).size := by omega
theorem textQ_eq (nm : Bs) (u : Nat) : mkS nm ++ ⟨#[61]⟩ ++ mkS (digL u) = mkS (nm ++ [61] ++ digL u) := by
  rw [show (⟨#[61]⟩ : ByteArray) = mkS [61] from rfl, mkS_append, mkS_append]
def numQ (d : Bs × Int) : List Bs := if d.2 < 0 then [] else if d.1 = dn2 ∧ d.2 = mxD then [d.1] else [d.1 ++ [61] ++ digL d.2.toNat]
def flgQ (d : Bs × Bool) : List Bs := if d.2 = true then [d.1] else []
theorem parts_eq (c : Ctl) : partsC c = (numsL c).flatMap numQ ++ (flagsL c).flatMap flgQ := by
  have e : ∀ (n : Bs) (a : Int), n ≠ dn2 → numQ (n, a) = numP n a := by
    intro n a hn
    unfold numQ numP
    simp [hn]
  have e2 : ∀ a : Int, numQ (dn2, a) = staP a := by intro a; unfold numQ staP; simp
  have e3 : ∀ (n : Bs) (b : Bool), flgQ (n, b) = flgP n b := fun _ _ => rfl
  unfold partsC numsL flagsL
  simp only [List.flatMap_cons, List.flatMap_nil, e2, e3, e dn0 _ (by decide), e dn1 _ (by decide), e dn3 _ (by decide), e dn4 _ (by decide), e dn5 _ (by decide)]
  simp [List.append_assoc]
theorem flatQ_take {α : Type} (f : α → List Bs) (L : List α) (i : Nat) (d : α) (h : i < L.length) : (L.take (i + 1)).flatMap f = (L.take i).flatMap f ++ f (L.getD i d) := by
  rw [List.take_succ_eq_append_getElem h, List.flatMap_append, List.flatMap_cons, List.flatMap_nil, List.append_nil]
  simp [List.getD, h]
theorem flatQ_len {α : Type} (f : α → List Bs) (hf : ∀ d, (f d).length ≤ 1) : ∀ L : List α, (L.flatMap f).length ≤ L.length
  | [] => by simp
  | d :: t => by rw [List.flatMap_cons, List.length_append, List.length_cons]; have := hf d; have := flatQ_len f hf t; omega
theorem numQ_one (d : Bs × Int) : (numQ d).length ≤ 1 := by
  unfold numQ
  split
  · simp
  · split <;> simp
theorem flgQ_one (d : Bs × Bool) : (flgQ d).length ≤ 1 := by unfold flgQ; split <;> simp
theorem nums_le (c : Ctl) (h : i64C c) : ∀ d ∈ numsL c, d.2 ≤ 9223372036854775807 := by
  obtain ⟨h0, h1, h2, h3, h4, h5⟩ := h
  intro d hd
  unfold numsL at hd
  simp only [List.mem_cons, List.not_mem_nil, or_false] at hd
  rcases hd with rfl | rfl | rfl | rfl | rfl | rfl <;> assumption
theorem nums_names (c : Ctl) : ∀ d ∈ numsL c, d.1.length ≤ 30 := by
  intro d hd
  unfold numsL at hd
  simp only [List.mem_cons, List.not_mem_nil, or_false] at hd
  rcases hd with rfl | rfl | rfl | rfl | rfl | rfl
  · exact (by decide : dn0.length ≤ 30)
  · exact (by decide : dn1.length ≤ 30)
  · exact (by decide : dn2.length ≤ 30)
  · exact (by decide : dn3.length ≤ 30)
  · exact (by decide : dn4.length ≤ 30)
  · exact (by decide : dn5.length ≤ 30)

set_option maxHeartbeats 8000000 in
set_option maxRecDepth 100000 in
theorem ctext_any (c : Ctl) (w : World) (hT : TenC w) (hi : i64C c) : Calls Tryz.prog 38 #[.agg (ctlA c)] w (StrPost (textC c) w) := by
  have hB := Bx.new w 63 (ctlA c)
  have hb := below_allocC w (.cells (ctlA c) 63)
  have HN : Hid (∀ W : World, Calls Tryz.prog 70 #[.agg (ctlA c)] W fun e w' => e = .returned (.agg (numA c)) ∧ Below W.heap.size W w') := fun W => numbers_any c W
  have HFl : Hid (∀ W : World, Calls Tryz.prog 72 #[.agg (ctlA c)] W fun e w' => e = .returned (.agg (flgA c)) ∧ Below W.heap.size W w') := fun W => flags_any c W
  have HI := Lib.hid (idx_num c)
  have HJ := Lib.hid (idx_flg c)
  have HLe := Lib.hid (nums_le c hi)
  have HNn := Lib.hid (nums_names c)
  have hlen : (numsL c).length = 6 := rfl
  have hlen2 : (flagsL c).length = 9 := rfl
  have HPr := Lib.hid (parts_eq c)
  have HTx := Lib.hid (show textC c = Lib.join (partsC c) [44, 32] from rfl)
  have HTl := Lib.hid (text_len c hi)
  have HBx0 := Lib.hid hB
  have HB0 := Lib.hid hb
  have HT := Lib.hid hT
  have hsz : w.heap.size ≤ (w.alloc (.cells (ctlA c) 63)).heap.size := by simp
  clear hB hb hT hi
  generalize hL : numsL c = L at *
  generalize hL2 : flagsL c = L2 at *
  generalize numA c = A at *
  generalize flgA c = A2 at *
  generalize textC c = txt at *
  generalize partsC c = parts at *
  clear hL hL2
  go_enter Tryz.func38, Tryz.ntmps38
  unfold ctlA at *
  go_wp2_with fail
  refine (HN.out _).mono ?_
  rintro e w1 ⟨rfl, hb1⟩
  have HB1 := Lib.hid (HB0.out.trans (hb1.mono hsz))
  have HBx1 := Lib.hid (HBx0.out.later hb1)
  clear hb1
  generalize w.alloc (Obj.cells #[.int .i64 c.a0, .int .i64 c.a1, .int .i64 c.a2, .int .i64 c.a3, .int .i64 c.a4, .int .i64 c.a5, .bool c.b0, .bool c.b1, .bool c.b2, .bool c.b3, .bool c.b4, .bool c.b5, .bool c.b6, .bool c.b7, .bool c.b8] 63) = w0 at *
  go_wp2_with fail
  go_loopw [3, 10] (fun v vi wr => ∃ i : Nat, i ≤ 6 ∧ vi = .int .i64 i ∧ Hid (Below w.heap.size w wr) ∧ Hid (Bx wr w.heap.size 63 (ctlA c)) ∧ Hid (wr.ownsRow w.heap.size 9 1 v ((L.take i).flatMap numQ).length (strs ((L.take i).flatMap numQ)))) (fun _ vi _ => 6 - (RowKit.intOf vi).toNat)
  case atStart => exact ⟨0, Nat.zero_le _, rfl, HB1.out, HBx1.out, World.ownsRow_nil _ _ _ _⟩
  case round =>
    obtain ⟨i, hi, rfl, HB, HBc, HO⟩ := hrel
    rename World => W
    by_cases hlt : i < 6
    · have hidx := HI.out i hlt W
      have hstep := flatQ_take numQ L i ([], 0) (by omega)
      have hq := flatQ_len numQ numQ_one (L.take i)
      rw [List.length_take] at hq
      generalize (L.take i).flatMap numQ = P at *
      have hle := HLe.out (L.getD i ([], 0)) (by simp [List.getD, show i < L.length by omega])
      have hnn := HNn.out (L.getD i ([], 0)) (by simp [List.getD, show i < L.length by omega])
      have hzW := HB.out.size
      generalize L.getD i ([], 0) = d at *
      obtain ⟨nm, a⟩ := d
      simp only at hidx hstep hle hnn
      have hnz : (mkS nm).size ≤ 30 := by rw [size_mkS]; exact hnn
      have hBW := Bx.new W 121 #[.string (mkS nm), .int .i64 a]
      have c0 := hBW.cell 0 _ rfl
      have c1 := hBW.cell 1 _ rfl
      have hbW := below_allocC W (.cells #[.string (mkS nm), .int .i64 a] 121)
      have HB2 := Lib.hid (HB.out.trans (hbW.mono hzW))
      have HBc2 := Lib.hid (HBc.out.later hbW)
      have HO2 := Lib.hid (own_later HO.out hbW)
      have HSt := Lib.hid hstep
      have HBx := Lib.hid hBW
      have hqd : numQ (nm, a) = if a < 0 then [] else if nm = dn2 ∧ a = mxD then [nm] else [nm ++ [61] ++ digL a.toNat] := rfl
      clear hstep hbW hBW
      by_cases h1 : a < 0
      · rw [hqd, if_pos h1, List.append_nil] at HSt
        clear hqd
        go_wp2_with fail
        refine ⟨⟨i + 1, hlt, by go_num, HB2, HBc2, ?_⟩, by simp [RowKit.intOf]; omega⟩
        show World.ownsRow _ _ _ _ _ _ _
        rw [HSt.out]
        exact HO2.out
      · rw [hqd, if_neg h1] at HSt
        clear hqd
        obtain ⟨u, rfl⟩ : ∃ u : Nat, a = u := ⟨a.toNat, by omega⟩
        by_cases h2 : nm = dn2 ∧ (u : Int) = mxD
        · rw [if_pos h2] at HSt
          have b3 : ((mkS nm).toList == ([109, 97, 120, 45, 115, 116, 97, 108, 101] : List UInt8)) = true := by rw [toList_bs, bs_mkS, h2.1]; decide
          have b4 : ((u : Int) == 2147483648) = true := by rw [h2.2]; rfl
          obtain ⟨i0, hi0, hz0, hz1, hz2⟩ := info_parts strInfo
          clear h2 h1
          have hz1' : (W.alloc (Obj.cells #[.string (mkS nm), .int .i64 (u : Int)] 121)).heap.size = W.heap.size + 1 := by simp
          go_wp2_with (at_builtin; refine wpList_append_own _ rfl _ _ 26 rfl w.heap.size 9 i0 (.string .empty) 1 16 Tryz.underlying26 hi0 hz0 hz1 hz2 rfl (by decide) _ _ _ rfl (HO2.out.alloc _) ⟨W.heap.size + 1, 0, none⟩ 1 1 [.string (mkS nm)] rfl rfl ?c1 ?c2 ?c3 ?c4 ?c5 ?_)
          case c1 => have h := cell_one_new (W.alloc (Obj.cells #[.string (mkS nm), .int .i64 (u : Int)] 121)) (.string (mkS nm)) 9; rw [hz1'] at h; exact h
          case c2 => simp [Value.oneCell']
          case c3 => unfold maxLen; omega
          case c4 => omega
          case c5 => simp; omega
          intro v6 w6 ho6 hg6 _
          clear hz1'
          generalize W.alloc (.cells #[.string (mkS nm), .int .i64 (u : Int)] 121) = W1 at *
          have hb6 := (HB2.out.alloc HB2.out.size _).trans (below_of_grown hg6 (HO2.out.alloc _) (by have := HB2.out.size; simp; omega))
          have hBc6 := HBc2.out.later (below_allocC W1 (Obj.cells #[.string (mkS nm)] 9))
          have HBc6 := Lib.hid (hBc6.grown hg6 (Ne.symm (bx_not_row hBc6 (HO2.out.alloc _) (by decide))))
          have HO6 := Lib.hid ho6
          have HB6 := Lib.hid hb6
          clear ho6 hg6 hBc6 hb6
          go_wp2_with fail
          refine ⟨⟨i + 1, hlt, by go_num, HB6, HBc6, ?_⟩, by simp [RowKit.intOf]; omega⟩
          show World.ownsRow _ _ _ _ _ _ _
          rw [HSt.out, List.length_append, strs_append]
          exact HO6.out
        · rw [if_neg h2] at HSt
          have hdz : (mkS (digL u)).size ≤ 19 := by rw [size_mkS]; exact digL_len 18 u (by omega)
          have HFm : Hid (∀ W' : World, Below w.heap.size w W' → Calls Tryz.prog 71 #[.int .i64 (u : Int), .int .i64 10] W' fun e w' => e = .returned (.string (mkS (digL u))) ∧ Below W'.heap.size W' w') := fun W' hb => fmt_any u W' (HT.out.later hb) (by omega)
          by_cases h3 : nm = dn2
          · have b3 : ((mkS nm).toList == ([109, 97, 120, 45, 115, 116, 97, 108, 101] : List UInt8)) = true := by rw [toList_bs, bs_mkS, h3]; decide
            have b4 : ((u : Int) == 2147483648) = false := by rw [beq_eq_false_iff_ne]; exact fun e => h2 ⟨h3, e⟩
            clear h2 h3 h1
            go_wp2_with fail
            generalize W.alloc (.cells #[.string (mkS nm), .int .i64 (u : Int)] 121) = W1 at *

            have hHeld0 : (fun Wz : World => Bx Wz W.heap.size 121 #[.string (mkS nm), .int .i64 (u : Int)] ∧ Below w.heap.size w Wz) W1.drew := ⟨HBx.out.later (Below.refl _ _).drew, HB2.out.drew⟩
            refine wp_region_held_drew (S := (fun Wz => Bx Wz W.heap.size 121 #[.string (mkS nm), .int .i64 (u : Int)] ∧ Below w.heap.size w Wz)) (by kernel_rfl) hHeld0 (fun hHeld => ?_)
            refine wpAnyH_take (i := 0) (v := ?_) rfl (by kernel_rfl) (by kernel_rfl) (by kernel_rfl) (fun _ _ _ h => h) (Or.inl ⟨by kernel_rfl, ?_⟩) (by assumption) ?_
            case refine_2 => (intro Wz hSw; go_simp; try with_reducible rfl)
            try simp only [Act.put, List.getElem_toArray, List.getElem_cons_zero, List.setIfInBounds_toArray, List.set_cons_zero, List.set_cons_succ]
            refine wpAnyH_take (i := 1) (v := ?_) rfl (by kernel_rfl) (by kernel_rfl) (by kernel_rfl) (fun _ _ _ h => h) (Or.inl ⟨by kernel_rfl, ?_⟩) (by assumption) ?_
            case refine_2 => (intro Wz hSw; go_simp; try with_reducible rfl)
            try simp only [Act.put, List.getElem_toArray, List.getElem_cons_succ, List.getElem_cons_zero, List.setIfInBounds_toArray, List.set_cons_zero, List.set_cons_succ]
            refine wpAnyH_take (i := 2) (v := .string (mkS nm)) rfl (by kernel_rfl) (by kernel_rfl) (by kernel_rfl) (fun _ _ _ h => h) (Or.inl ⟨by kernel_rfl, ?_⟩) (by assumption) ?_
            case refine_1 => (intro Wz hSw; have u := hSw.1.cell 0 _ rfl; go_simp; try with_reducible rfl)
            try simp only [Act.put, List.getElem_toArray, List.getElem_cons_succ, List.getElem_cons_zero, List.setIfInBounds_toArray, List.set_cons_zero, List.set_cons_succ]
            refine wpAnyH_take (i := 3) (v := .string (mkS nm ++ ⟨#[61]⟩)) rfl (by kernel_rfl) (by kernel_rfl) (by kernel_rfl) (fun _ _ _ h => h) (Or.inl ⟨by kernel_rfl, ?_⟩) (by assumption) ?_
            case refine_1 => (intro Wz hSw; have u : ¬ 9223372036854775807 < (mkS nm).size + 1 := (by omega); go_simp; try with_reducible rfl)
            try simp only [Act.put, List.getElem_toArray, List.getElem_cons_succ, List.getElem_cons_zero, List.setIfInBounds_toArray, List.set_cons_zero, List.set_cons_succ]
            refine wpAnyH_take (i := 4) (v := ?_) rfl (by kernel_rfl) (by kernel_rfl) (by kernel_rfl) (fun _ _ _ h => h) (Or.inl ⟨by kernel_rfl, ?_⟩) (by assumption) ?_
            case refine_2 => (intro Wz hSw; go_simp; try with_reducible rfl)
            try simp only [Act.put, List.getElem_toArray, List.getElem_cons_succ, List.getElem_cons_zero, List.setIfInBounds_toArray, List.set_cons_zero, List.set_cons_succ]
            refine wpAnyH_take (i := 5) (v := .int .i64 (u : Int)) rfl (by kernel_rfl) (by kernel_rfl) (by kernel_rfl) (fun _ _ _ h => h) (Or.inl ⟨by kernel_rfl, ?_⟩) (by assumption) ?_
            case refine_1 => (intro Wz hSw; have u := hSw.1.cell 1 _ rfl; go_simp; try with_reducible rfl)
            try simp only [Act.put, List.getElem_toArray, List.getElem_cons_succ, List.getElem_cons_zero, List.setIfInBounds_toArray, List.set_cons_zero, List.set_cons_succ]
            refine wpAnyH_ready (rs := [6]) (by kernel_rfl) (by simp) ?_
            refine AllReadyH.cons rfl (fun K hK => ?_) AllReadyH.nil
            go_simp
            refine (HFm.out _ HB2.out.drew).mono ?_
            rintro e w5 ⟨rfl, hb5⟩
            have hHeld5 : (fun Wz : World => Bx Wz W.heap.size 121 #[.string (mkS nm), .int .i64 (u : Int)] ∧ Below w.heap.size w Wz) w5 := ⟨(HBx.out.later (Below.refl _ _).drew).later hb5, HB2.out.drew.trans (hb5.mono HB2.out.drew.size)⟩
            have HO5 := Lib.hid (own_later HO2.out ((Below.refl _ _).drew.trans hb5))
            go_simp
            refine hK.out _ _ (by assumption) (fun hHeld2 => ?_)
            clear hK K hHeld2
            try simp only [Act.put, List.getElem_toArray, List.getElem_cons_succ, List.getElem_cons_zero, List.setIfInBounds_toArray, List.set_cons_zero, List.set_cons_succ]
            refine wpAnyH_take (i := 7) (v := .string (mkS (nm ++ [61] ++ digL u))) rfl (by kernel_rfl) (by kernel_rfl) (by kernel_rfl) (fun _ _ _ h => h) (Or.inl ⟨by kernel_rfl, ?_⟩) (by assumption) ?_
            case refine_1 => (intro Wz hSw; have u2 := sizeC_sum nm u hnz hdz; have u3 := textQ_eq nm u; go_simp; try with_reducible rfl)
            try simp only [Act.put, List.getElem_toArray, List.getElem_cons_succ, List.getElem_cons_zero, List.setIfInBounds_toArray, List.set_cons_zero, List.set_cons_succ]
            refine wpAnyH_ready (rs := [8]) (by kernel_rfl) (by simp) ?_
            refine AllReadyH.cons rfl (fun K hK => ?_) AllReadyH.nil
            go_simp
            have hHeld8 : (fun Wz : World => Bx Wz W.heap.size 121 #[.string (mkS nm), .int .i64 (u : Int)] ∧ Below w.heap.size w Wz) (w5.alloc (Obj.cells #[.string (mkS (nm ++ 61 :: digL u))] 9)) := ⟨hHeld5.1.later (below_allocC _ _), hHeld5.2.alloc hHeld5.2.size _⟩
            refine hK.out _ _ hHeld8 (fun hHeld2 => ?_)
            clear hK K hHeld2
            try simp only [Act.put, List.getElem_toArray, List.getElem_cons_succ, List.getElem_cons_zero, List.setIfInBounds_toArray, List.set_cons_zero, List.set_cons_succ]
            refine wpAnyH_ready (rs := [9]) (by kernel_rfl) (by simp) ?_
            refine AllReadyH.cons rfl (fun K hK => ?_) AllReadyH.nil
            refine step_addC (by rfl) _ _ (by rfl) w.heap.size u3 _ (nm ++ 61 :: digL u) (by rfl) (by rfl) HO5.out hHeld5.2.size (by omega) ?_
            intro v6 w6 ho6 hg6
            have hb6 : Below w.heap.size w w6 := hHeld8.2.trans (below_of_grown hg6 (HO5.out.alloc _) hHeld8.2.size)
            have hBx6 := hHeld8.1.grown hg6 (Ne.symm (bx_not_row hHeld8.1 (HO5.out.alloc _) (by decide)))
            have hBc6 := (HBc2.out.later ((Below.refl _ _).drew.trans hb5)).later (below_allocC w5 (Obj.cells #[.string (mkS (nm ++ 61 :: digL u))] 9))
            have HBc6 := Lib.hid (hBc6.grown hg6 (Ne.symm (bx_not_row hBc6 (HO5.out.alloc _) (by decide))))
            have hHeld6 : (fun Wz : World => Bx Wz W.heap.size 121 #[.string (mkS nm), .int .i64 (u : Int)] ∧ Below w.heap.size w Wz) w6 := ⟨hBx6, hb6⟩
            have HO6 := Lib.hid ho6
            have HB6 := Lib.hid hb6
            clear ho6 hg6 hBx6 hBc6 hb6 hHeld8 hHeld5 hHeld0 hHeld
            refine hK.out _ _ hHeld6 (fun hHeld2 => ?_)
            clear hK K hHeld2
            try simp only [Act.put, List.getElem_toArray, List.getElem_cons_succ, List.getElem_cons_zero, List.setIfInBounds_toArray, List.set_cons_zero, List.set_cons_succ]
            refine wpAnyH_take (i := 10) (v := ?_) rfl (by kernel_rfl) (by kernel_rfl) (by kernel_rfl) (fun _ _ _ h => h) (Or.inl ⟨by kernel_rfl, ?_⟩) (by assumption) ?_
            case refine_2 => (intro Wz hSw; go_simp; try with_reducible rfl)
            try simp only [Act.put, List.getElem_toArray, List.getElem_cons_succ, List.getElem_cons_zero, List.setIfInBounds_toArray, List.set_cons_zero, List.set_cons_succ]
            refine wpAnyH_done (by kernel_rfl) ?_ _
            clear hHeld6 hb5
            go_wp2_with fail
            refine ⟨⟨i + 1, hlt, by go_num, HB6, HBc6, ?_⟩, by simp [RowKit.intOf]; omega⟩
            show World.ownsRow _ _ _ _ _ _ _
            rw [HSt.out, show nm ++ [61] ++ digL ((u : Int)).toNat = (nm ++ 61 :: digL u) by simp]
            exact HO6.out
          · have b3 : ((mkS nm).toList == ([109, 97, 120, 45, 115, 116, 97, 108, 101] : List UInt8)) = false := by rw [toList_bs, bs_mkS, beq_eq_false_iff_ne]; exact h3
            clear h2 h3 h1
            go_wp2_with fail
            generalize W.alloc (.cells #[.string (mkS nm), .int .i64 (u : Int)] 121) = W1 at *
            have hHeld0 : (fun Wz : World => Bx Wz W.heap.size 121 #[.string (mkS nm), .int .i64 (u : Int)] ∧ Below w.heap.size w Wz) W1.drew := ⟨HBx.out.later (Below.refl _ _).drew, HB2.out.drew⟩
            refine wp_region_held_drew (S := (fun Wz => Bx Wz W.heap.size 121 #[.string (mkS nm), .int .i64 (u : Int)] ∧ Below w.heap.size w Wz)) (by kernel_rfl) hHeld0 (fun hHeld => ?_)
            refine wpAnyH_take (i := 0) (v := ?_) rfl (by kernel_rfl) (by kernel_rfl) (by kernel_rfl) (fun _ _ _ h => h) (Or.inl ⟨by kernel_rfl, ?_⟩) (by assumption) ?_
            case refine_2 => (intro Wz hSw; go_simp; try with_reducible rfl)
            try simp only [Act.put, List.getElem_toArray, List.getElem_cons_zero, List.setIfInBounds_toArray, List.set_cons_zero, List.set_cons_succ]
            refine wpAnyH_take (i := 1) (v := ?_) rfl (by kernel_rfl) (by kernel_rfl) (by kernel_rfl) (fun _ _ _ h => h) (Or.inl ⟨by kernel_rfl, ?_⟩) (by assumption) ?_
            case refine_2 => (intro Wz hSw; go_simp; try with_reducible rfl)
            try simp only [Act.put, List.getElem_toArray, List.getElem_cons_succ, List.getElem_cons_zero, List.setIfInBounds_toArray, List.set_cons_zero, List.set_cons_succ]
            refine wpAnyH_take (i := 2) (v := .string (mkS nm)) rfl (by kernel_rfl) (by kernel_rfl) (by kernel_rfl) (fun _ _ _ h => h) (Or.inl ⟨by kernel_rfl, ?_⟩) (by assumption) ?_
            case refine_1 => (intro Wz hSw; have u := hSw.1.cell 0 _ rfl; go_simp; try with_reducible rfl)
            try simp only [Act.put, List.getElem_toArray, List.getElem_cons_succ, List.getElem_cons_zero, List.setIfInBounds_toArray, List.set_cons_zero, List.set_cons_succ]
            refine wpAnyH_take (i := 3) (v := .string (mkS nm ++ ⟨#[61]⟩)) rfl (by kernel_rfl) (by kernel_rfl) (by kernel_rfl) (fun _ _ _ h => h) (Or.inl ⟨by kernel_rfl, ?_⟩) (by assumption) ?_
            case refine_1 => (intro Wz hSw; have u : ¬ 9223372036854775807 < (mkS nm).size + 1 := (by omega); go_simp; try with_reducible rfl)
            try simp only [Act.put, List.getElem_toArray, List.getElem_cons_succ, List.getElem_cons_zero, List.setIfInBounds_toArray, List.set_cons_zero, List.set_cons_succ]
            refine wpAnyH_take (i := 4) (v := ?_) rfl (by kernel_rfl) (by kernel_rfl) (by kernel_rfl) (fun _ _ _ h => h) (Or.inl ⟨by kernel_rfl, ?_⟩) (by assumption) ?_
            case refine_2 => (intro Wz hSw; go_simp; try with_reducible rfl)
            try simp only [Act.put, List.getElem_toArray, List.getElem_cons_succ, List.getElem_cons_zero, List.setIfInBounds_toArray, List.set_cons_zero, List.set_cons_succ]
            refine wpAnyH_take (i := 5) (v := .int .i64 (u : Int)) rfl (by kernel_rfl) (by kernel_rfl) (by kernel_rfl) (fun _ _ _ h => h) (Or.inl ⟨by kernel_rfl, ?_⟩) (by assumption) ?_
            case refine_1 => (intro Wz hSw; have u := hSw.1.cell 1 _ rfl; go_simp; try with_reducible rfl)
            try simp only [Act.put, List.getElem_toArray, List.getElem_cons_succ, List.getElem_cons_zero, List.setIfInBounds_toArray, List.set_cons_zero, List.set_cons_succ]
            refine wpAnyH_ready (rs := [6]) (by kernel_rfl) (by simp) ?_
            refine AllReadyH.cons rfl (fun K hK => ?_) AllReadyH.nil
            go_simp
            refine (HFm.out _ HB2.out.drew).mono ?_
            rintro e w5 ⟨rfl, hb5⟩
            have hHeld5 : (fun Wz : World => Bx Wz W.heap.size 121 #[.string (mkS nm), .int .i64 (u : Int)] ∧ Below w.heap.size w Wz) w5 := ⟨(HBx.out.later (Below.refl _ _).drew).later hb5, HB2.out.drew.trans (hb5.mono HB2.out.drew.size)⟩
            have HO5 := Lib.hid (own_later HO2.out ((Below.refl _ _).drew.trans hb5))
            go_simp
            refine hK.out _ _ (by assumption) (fun hHeld2 => ?_)
            clear hK K hHeld2
            try simp only [Act.put, List.getElem_toArray, List.getElem_cons_succ, List.getElem_cons_zero, List.setIfInBounds_toArray, List.set_cons_zero, List.set_cons_succ]
            refine wpAnyH_take (i := 7) (v := .string (mkS (nm ++ [61] ++ digL u))) rfl (by kernel_rfl) (by kernel_rfl) (by kernel_rfl) (fun _ _ _ h => h) (Or.inl ⟨by kernel_rfl, ?_⟩) (by assumption) ?_
            case refine_1 => (intro Wz hSw; have u2 := sizeC_sum nm u hnz hdz; have u3 := textQ_eq nm u; go_simp; try with_reducible rfl)
            try simp only [Act.put, List.getElem_toArray, List.getElem_cons_succ, List.getElem_cons_zero, List.setIfInBounds_toArray, List.set_cons_zero, List.set_cons_succ]
            refine wpAnyH_ready (rs := [8]) (by kernel_rfl) (by simp) ?_
            refine AllReadyH.cons rfl (fun K hK => ?_) AllReadyH.nil
            go_simp
            have hHeld8 : (fun Wz : World => Bx Wz W.heap.size 121 #[.string (mkS nm), .int .i64 (u : Int)] ∧ Below w.heap.size w Wz) (w5.alloc (Obj.cells #[.string (mkS (nm ++ 61 :: digL u))] 9)) := ⟨hHeld5.1.later (below_allocC _ _), hHeld5.2.alloc hHeld5.2.size _⟩
            refine hK.out _ _ hHeld8 (fun hHeld2 => ?_)
            clear hK K hHeld2
            try simp only [Act.put, List.getElem_toArray, List.getElem_cons_succ, List.getElem_cons_zero, List.setIfInBounds_toArray, List.set_cons_zero, List.set_cons_succ]
            refine wpAnyH_ready (rs := [9]) (by kernel_rfl) (by simp) ?_
            refine AllReadyH.cons rfl (fun K hK => ?_) AllReadyH.nil
            refine step_addC (by rfl) _ _ (by rfl) w.heap.size u3 _ (nm ++ 61 :: digL u) (by rfl) (by rfl) HO5.out hHeld5.2.size (by omega) ?_
            intro v6 w6 ho6 hg6
            have hb6 : Below w.heap.size w w6 := hHeld8.2.trans (below_of_grown hg6 (HO5.out.alloc _) hHeld8.2.size)
            have hBx6 := hHeld8.1.grown hg6 (Ne.symm (bx_not_row hHeld8.1 (HO5.out.alloc _) (by decide)))
            have hBc6 := (HBc2.out.later ((Below.refl _ _).drew.trans hb5)).later (below_allocC w5 (Obj.cells #[.string (mkS (nm ++ 61 :: digL u))] 9))
            have HBc6 := Lib.hid (hBc6.grown hg6 (Ne.symm (bx_not_row hBc6 (HO5.out.alloc _) (by decide))))
            have hHeld6 : (fun Wz : World => Bx Wz W.heap.size 121 #[.string (mkS nm), .int .i64 (u : Int)] ∧ Below w.heap.size w Wz) w6 := ⟨hBx6, hb6⟩
            have HO6 := Lib.hid ho6
            have HB6 := Lib.hid hb6
            clear ho6 hg6 hBx6 hBc6 hb6 hHeld8 hHeld5 hHeld0 hHeld
            refine hK.out _ _ hHeld6 (fun hHeld2 => ?_)
            clear hK K hHeld2
            try simp only [Act.put, List.getElem_toArray, List.getElem_cons_succ, List.getElem_cons_zero, List.setIfInBounds_toArray, List.set_cons_zero, List.set_cons_succ]
            refine wpAnyH_take (i := 10) (v := ?_) rfl (by kernel_rfl) (by kernel_rfl) (by kernel_rfl) (fun _ _ _ h => h) (Or.inl ⟨by kernel_rfl, ?_⟩) (by assumption) ?_
            case refine_2 => (intro Wz hSw; go_simp; try with_reducible rfl)
            try simp only [Act.put, List.getElem_toArray, List.getElem_cons_succ, List.getElem_cons_zero, List.setIfInBounds_toArray, List.set_cons_zero, List.set_cons_succ]
            refine wpAnyH_done (by kernel_rfl) ?_ _
            clear hHeld6 hb5
            go_wp2_with fail
            refine ⟨⟨i + 1, hlt, by go_num, HB6, HBc6, ?_⟩, by simp [RowKit.intOf]; omega⟩
            show World.ownsRow _ _ _ _ _ _ _
            rw [HSt.out, show nm ++ [61] ++ digL ((u : Int)).toNat = (nm ++ 61 :: digL u) by simp]
            exact HO6.out
    · obtain rfl : i = 6 := by omega
      have HO1 := HO.out
      rw [List.take_of_length_le (by omega)] at HO1
      have hq1 := flatQ_len numQ numQ_one L
      generalize L.flatMap numQ = P1 at *
      have HO2 := Lib.hid HO1
      clear HO1 HI HLe HNn
      go_wp2_with (refine wpList_load_row rfl _ _ rfl w.heap.size rfl _ (ctlA c) (0, 0) _ HBc.out Tryz.underlying63 rfl (ctl_size c) ?_)
      refine (HFl.out _).mono ?_
      rintro e w2 ⟨rfl, hb2⟩
      have HB2 := Lib.hid (HB.out.trans (hb2.mono HB.out.size))
      have HO3 := Lib.hid (own_later HO2.out hb2)
      clear hb2 HBc
      go_wp2_with fail
      go_loopw [3, 44] (fun v vi wr => ∃ i : Nat, i ≤ 9 ∧ vi = .int .i64 i ∧ Hid (Below w.heap.size w wr) ∧ Hid (wr.ownsRow w.heap.size 9 1 v (P1 ++ (L2.take i).flatMap flgQ).length (strs (P1 ++ (L2.take i).flatMap flgQ)))) (fun _ vi _ => 9 - (RowKit.intOf vi).toNat)
      case atStart => exact ⟨0, Nat.zero_le _, rfl, HB2.out, by show World.ownsRow _ _ _ _ _ _ _; rw [List.take_zero, List.flatMap_nil, List.append_nil]; exact HO3.out⟩
      case round =>
        obtain ⟨i, hi, rfl, HB, HO⟩ := hrel
        rename World => W
        by_cases hlt : i < 9
        · have hidx := HJ.out i hlt W
          have hstep := flatQ_take flgQ L2 i ([], false) (by omega)
          have hq := flatQ_len flgQ flgQ_one (L2.take i)
          rw [List.length_take] at hq
          have hPl : (P1 ++ (L2.take i).flatMap flgQ).length ≤ 100 := by rw [List.length_append]; omega
          have hcat : P1 ++ (L2.take (i + 1)).flatMap flgQ = P1 ++ (L2.take i).flatMap flgQ ++ flgQ (L2.getD i ([], false)) := by rw [hstep, List.append_assoc]
          have HCat := Lib.hid hcat
          clear hstep hq hcat
          generalize P1 ++ (L2.take i).flatMap flgQ = P at *
          have hzW := HB.out.size
          generalize L2.getD i ([], false) = d at *
          obtain ⟨nm, b⟩ := d
          simp only at hidx
          have hqd : flgQ (nm, b) = if b = true then [nm] else [] := rfl
          have hBW := Bx.new W 126 #[.string (mkS nm), .bool b]
          have c0 := hBW.cell 0 _ rfl
          have c1 := hBW.cell 1 _ rfl
          have hbW := below_allocC W (.cells #[.string (mkS nm), .bool b] 126)
          have HB3 := Lib.hid (HB.out.trans (hbW.mono hzW))
          have HO4 := Lib.hid (own_later HO.out hbW)
          clear hbW hBW
          cases b
          · rw [hqd, if_neg (by decide), List.append_nil] at HCat
            clear hqd
            go_wp2_with fail
            refine ⟨⟨i + 1, hlt, by go_num, HB3, ?_⟩, by simp [RowKit.intOf]; omega⟩
            show World.ownsRow _ _ _ _ _ _ _
            rw [HCat.out]
            exact HO4.out
          · rw [hqd, if_pos rfl] at HCat
            clear hqd
            obtain ⟨i0, hi0, hz0, hz1, hz2⟩ := info_parts strInfo
            have hz1' : (W.alloc (Obj.cells #[.string (mkS nm), .bool true] 126)).heap.size = W.heap.size + 1 := by simp
            go_wp2_with (at_builtin; refine wpList_append_own _ rfl _ _ 26 rfl w.heap.size 9 i0 (.string .empty) 1 16 Tryz.underlying26 hi0 hz0 hz1 hz2 rfl (by decide) _ _ _ rfl (HO4.out.alloc _) ⟨W.heap.size + 1, 0, none⟩ 1 1 [.string (mkS nm)] rfl rfl ?c1 ?c2 ?c3 ?c4 ?c5 ?_)
            case c1 => have h := cell_one_new (W.alloc (Obj.cells #[.string (mkS nm), .bool true] 126)) (.string (mkS nm)) 9; rw [hz1'] at h; exact h
            case c2 => simp [Value.oneCell']
            case c3 => unfold maxLen; omega
            case c4 => omega
            case c5 => simp; omega
            intro v6 w6 ho6 hg6 _
            clear hz1'
            generalize W.alloc (.cells #[.string (mkS nm), .bool true] 126) = W1 at *
            have hb6 := (HB3.out.alloc HB3.out.size _).trans (below_of_grown hg6 (HO4.out.alloc _) (by have := HB3.out.size; simp; omega))
            have HO6 := Lib.hid ho6
            have HB6 := Lib.hid hb6
            clear ho6 hg6 hb6
            go_wp2_with fail
            refine ⟨⟨i + 1, hlt, by go_num, HB6, ?_⟩, by simp [RowKit.intOf]; omega⟩
            show World.ownsRow _ _ _ _ _ _ _
            rw [HCat.out, List.length_append, strs_append]
            exact HO6.out
        · obtain rfl : i = 9 := by omega
          have hq2 := flatQ_len flgQ flgQ_one L2
          have hO := HO.out
          rw [List.take_of_length_le (by omega)] at hO
          have hpl : parts.length ≤ 100 := by rw [HPr.out, List.length_append]; omega
          rw [← HPr.out] at hO
          have HJn := Lib.hid (joinC_any u3 parts w.heap.size W hO (by omega) (by rw [← HTx.out]; have := HTl.out; omega))
          clear hO hq2
          go_wp2_with fail
          refine HJn.out.mono ?_
          rintro e w7 ⟨rfl, hb7⟩
          have HB7 := Lib.hid (HB.out.trans (hb7.mono HB.out.size))
          clear hb7
          go_wp2_with fail
          go_ret
          exact ⟨by rw [HTx.out]; rfl, HB7.out⟩
end Tk
end Go.Proofs.YtnbipbeeengiaaaGreatDoor
