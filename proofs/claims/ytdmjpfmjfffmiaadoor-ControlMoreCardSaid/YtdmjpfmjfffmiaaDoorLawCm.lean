/- ControlMore: one more directive never makes a truth false, nor a number greater; order does not matter. -/
import Derived.Test.YtdmjpfmjfffmiaaDoorLawCb
import Derived.Test.YtdmjpfmjfffmiaaDoorCtJ
import Derived.Test.YtdmjpfmjfffmiaaDoorRSm
import Derived.Deep.Cut
namespace Go.Proofs.YtdmjpfmjfffmiaaDoor
open Go.RowKit
namespace Tk

theorem own_base0 {w : World} {B B2 n : Nat} {v : Value} {xs : List Value} {e : TypeId} (h : w.ownsRow B e 1 v n xs) (hb : B2 ≤ B) : w.ownsRow B2 e 1 v n xs := by
  refine ⟨h.1, ?_⟩
  rcases h.2 with h2 | ⟨g, cap, cur, hv, hge, h2⟩
  · exact .inl h2
  · exact .inr ⟨g, cap, cur, hv, Nat.le_trans hb hge, h2⟩
def lessB (x y : Int) : Bool := decide (x < 0) || (decide (y ≥ 0) && decide (y ≤ x))
theorem less_num {a m : Int} (k : vN m) : lessB a (leastI a m) = true := by
  unfold lessB
  rcases more_num (a := a) k with h | ⟨h1, h2⟩
  · rw [decide_eq_true h]; rfl
  · rw [decide_eq_true h1, decide_eq_true h2, Bool.and_self, Bool.or_true]
set_option maxHeartbeats 1000000 in
theorem less_any (x y : Int) (w : World) : Calls Tryd.prog 29 #[.int .i64 x, .int .i64 y] w fun e w' => e = .returned (.bool (lessB x y)) ∧ w = w' := by
  have hq : lessB x y = (decide (x < 0) || (decide (y ≥ 0) && decide (y ≤ x))) := rfl
  by_cases h1 : x < 0
  · have d1 := decide_eq_true h1
    rw [d1, Bool.true_or] at hq
    rw [hq]
    clear hq
    go_enter Tryd.func29, Tryd.ntmps29
    go_wp2_with fail
    go_ret
    exact ⟨rfl, rfl⟩
  · have d1 := decide_eq_false h1
    rw [d1, Bool.false_or] at hq
    by_cases h2 : y ≥ 0
    · have d2 := decide_eq_true h2
      rw [d2, Bool.true_and] at hq
      rw [hq]
      clear hq
      go_enter Tryd.func29, Tryd.ntmps29
      go_wp2_with fail
      go_ret
      exact ⟨rfl, rfl⟩
    · have d2 := decide_eq_false h2
      rw [d2, Bool.false_and] at hq
      rw [hq]
      clear hq
      go_enter Tryd.func29, Tryd.ntmps29
      go_wp2_with fail
      go_ret
      exact ⟨rfl, rfl⟩

section
variable {P : Program} {ops : Array Oper} {rest : List Oper} {o : Oper} {a : Act} {w : World} {Q : Exit → Act → World → Prop}
theorem wp_val {K : Act → World → Prop} (v : Value) (h : (execOp a.eval o).run P w = .ok (.value v) w) (k : K (a.put o.dst v) w) : o.wp P a w K Q := by
  unfold Oper.wp
  rw [h]
  exact k
theorem wpl_nil (h : Q .normal a w) : wpList P ops Q [] a w := h
theorem then_normal {K : Act → World → Prop} {R : Exit → Act → World → Prop} (h : K a w) : Exit.then K R .normal a w := h
theorem wpl_val (hg : o.guard = none) (v : Value) (h : (execOp a.eval o).run P w = .ok (.value v) w) (k : wpList P ops Q rest (a.put o.dst v) w) : wpList P ops Q (o :: rest) a w :=
  wpList_plain hg fun _ hK => wp_val v h (hK _ _ k)
theorem wpl_on (hw : Region.wanted o (yielded ops a.tmps) = true) (v : Value) (h : (execOp a.eval o).run P w = .ok (.value v) w) (k : wpList P ops Q rest (a.put o.dst v) w) : wpList P ops Q (o :: rest) a w :=
  BigFrame.wpList_want hw fun _ hK => wp_val v h (hK _ _ k)
theorem wpl_if (x : Bool) (hw : Region.wanted o (yielded ops a.tmps) = x) (v : Value) (h : x = true → (execOp a.eval o).run P w = .ok (.value v) w) (k : wpList P ops Q rest (a.put o.dst (if x = true then v else undef)) w) : wpList P ops Q (o :: rest) a w := by
  cases hx : x
  · subst hx
    exact wpList_skip hw k
  · subst hx
    exact wpl_on hw v (h rfl) k
end

set_option maxHeartbeats 32000000 in
set_option maxRecDepth 100000 in
theorem more10_any (v : Value) (L : List Bs) (m : Bs) (w : World) (hs : IsStrs w v L) (hnl : ∀ n c, v = .slice none n c → c = 0) (hz : ∀ x ∈ L, x.length ≤ 140737488351232) (hl : L.length ≤ 8796093022200) (hm : m.length ≤ 140737488351232) (hT : TenC w) :
    Calls Tryd.prog 6 #[v, .string (mkS m)] w fun e w' => e = .returned (.bool true) ∧ Below w.heap.size w w' := by
  have HLv : Hid (∀ W : World, Calls Tryd.prog 19 #[] W fun e w' => e = .returned (.bool true) ∧ Below W.heap.size W w') := lives10_any
  have HOw : Hid (∀ W : World, Below w.heap.size w W → Calls Tryd.prog 28 #[v] W fun e w' => ∃ v', e = .returned v' ∧ w'.ownsRow W.heap.size 9 1 v' L.length (strs L) ∧ Below W.heap.size W w') := fun W hb => ownS_any v L W (isStrsC_below hs hb) hnl (by omega)
  have HLt : Hid (∀ (B : Nat) (u : Value) (W : World), W.ownsRow B 9 1 u (L ++ [m]).length (strs (L ++ [m])) → Calls Tryd.prog 27 #[u, .int .i64 20, .int .i64 600] W fun e w' => e = .returned (.bool (lightX 20 600 (L ++ [m]))) ∧ W = w') := fun B u W ho => lightX_any 20 600 u (L ++ [m]) W (by decide) (by decide) (isStrs_own ho) (by
      intro x hx
      rcases List.mem_append.1 hx with hx | hx
      · exact hz x hx
      · rw [List.mem_singleton] at hx; subst hx; exact hm) (by simp; omega)
  have HTx : Hid (∀ (x : Ctl) (W : World), Below w.heap.size w W → i64C x → Calls Tryd.prog 23 #[.agg (ctlA x)] W fun e w' => e = .returned (.string (mkS (textC x))) ∧ Below W.heap.size W w') := fun x W hb hx => ctext_any x W (hT.later hb) hx
  have HJo : Hid (∀ (x y : Ctl) (W : World), Below w.heap.size w W → vC x → vC y → Calls Tryd.prog 26 #[.agg (ctlA x), .agg (ctlA y)] W fun e w' => e = .returned (.agg (ctlA (joinC x y))) ∧ Below W.heap.size W w') := fun x y W hb hx hy => by
    have h := cjoin_any x y W (hT.later hb) (v_i64 hx) (v_i64 hy)
    rw [parse_texts x y hx hy] at h
    exact h
  have HN : Hid (∀ W : World, Calls Tryd.prog 21 #[] W fun e w' => e = .returned (.agg (ctlA noneC)) ∧ Below W.heap.size W w') := cnone_any
  have HLs : Hid (∀ (x y : Int) (W : World), Calls Tryd.prog 29 #[.int .i64 x, .int .i64 y] W fun e w' => e = .returned (.bool (lessB x y)) ∧ W = w') := less_any
  have HSm : Hid (∀ (x : Ctl) (W : World), i64C x → Calls Tryd.prog 30 #[.string (mkS (textC x)), .string (mkS (textC x))] W fun e w' => e = .returned (.bool true) ∧ Below W.heap.size W w') := fun x W hx => by
    have hl := text_len x hx
    have h := rsm_any (mkS (textC x)) (mkS (textC x)) W (by rw [size_mkS]; omega) (by rw [size_mkS]; omega)
    rw [decide_eq_true rfl] at h
    exact h
  have HPo : Hid (∀ (P : List Bs), (P.length ≤ 21 ∧ ∀ x ∈ P, x.length ≤ 600) → ∀ (B : Nat) (u : Value) (W : World), W.ownsRow B 9 1 u P.length (strs P) → Calls Tryd.prog 20 #[u] W fun e w' => e = .returned (.agg (ctlA (parseL P))) ∧ Below W.heap.size W w') := fun P hP B u W ho => parse_any u P W (isStrs_own ho) (by omega) (fun x hx => by have := hP.2 x hx; omega)
  have HS := Lib.hid hs
  have HNl := Lib.hid hnl
  obtain ⟨a, cap, rfl⟩ : ∃ a cap, v = .slice a L.length cap := by obtain ⟨a, c, h, -⟩ := hs; exact ⟨a, c, h⟩
  clear hs hnl hz hm hT
  cases hlx : lightX 20 600 (L ++ [m])
  · rw [hlx] at HLt
    clear hlx
    go_enter Tryd.func6, Tryd.ntmps6
    go_wp2_with fail
    refine (HLv.out _).mono ?_
    rintro e w1 ⟨rfl, hb1⟩
    have HB1 := Lib.hid hb1
    clear hb1
    go_wp2_with fail
    refine (HOw.out _ HB1.out).mono ?_
    rintro e w2 ⟨u, rfl, ho2, hb2⟩
    have HB2 := Lib.hid (HB1.out.trans (hb2.mono HB1.out.size))
    have HO2 := Lib.hid (own_base0 ho2 HB1.out.size)
    clear hb2 ho2
    go_wp2_with (at_builtin; refine wpList_addC rfl _ _ rfl w.heap.size u L m rfl rfl HO2.out HB2.out.size (by omega) ?_; intro u3 w3 ho3 hg3)
    have HB3 := Lib.hid ((HB2.out.alloc HB2.out.size _).trans (below_of_grown hg3 (HO2.out.alloc _) (by have := HB2.out.size; simp; omega)))
    refine (HLt.out _ u3 w3 ho3).mono ?_
    rintro e w4 ⟨rfl, rfl⟩
    clear ho3 hg3
    go_wp2_with fail
    go_ret
    exact ⟨rfl, HB3.out⟩
  · rw [hlx] at HLt
    have hli := light_lens hlx
    have hLm : (L ++ [m]).length ≤ 21 ∧ ∀ x ∈ L ++ [m], x.length ≤ 600 := ⟨by omega, hli.2.2⟩
    have hL0 : L.length ≤ 21 ∧ ∀ x ∈ L, x.length ≤ 600 := ⟨by have := hLm.1; simp at this; omega, fun x hx => hLm.2 x (by simp [hx])⟩
    have hmL : ([m] ++ L).length ≤ 21 ∧ ∀ x ∈ [m] ++ L, x.length ≤ 600 := ⟨by have := hLm.1; simp at this ⊢; omega, fun x hx => hLm.2 x (by simp at hx ⊢; exact hx.symm)⟩
    have HPa : Hid (∀ W : World, Below w.heap.size w W → Calls Tryd.prog 20 #[.slice a L.length cap] W fun e w' => e = .returned (.agg (ctlA (parseL L))) ∧ Below W.heap.size W w') := fun W hb => parse_any _ L W (isStrsC_below HS.out hb) (by omega) (fun x hx => by have := hL0.2 x hx; omega)
    have HPb := Lib.hid (HPo.out _ hLm)
    have HPc := Lib.hid (HPo.out _ hmL)
    have hva := v_parse L
    have hvm := v_parse [m]
    have hbj : parseL (L ++ [m]) = joinC (parseL L) (parseL [m]) := parse_app L [m]
    have hcj : parseL ([m] ++ L) = joinC (parseL L) (parseL [m]) := by rw [parse_app, join_comm]
    rw [hbj] at HPb
    rw [hcj] at HPc
    clear hbj hcj hlx hli hLm hL0 hmL HPo
    generalize parseL L = pa at *
    generalize parseL [m] = pm at *
    have hvb := v_join hva hvm
    have hj1 : joinC pa (joinC pa pm) = joinC pa pm := by rw [← join_assoc, join_self]
    have hj2 : joinC pa pa = pa := join_self pa
    have hj3 : joinC noneC pa = pa := none_join hva
    have hn0 : lessB pa.a0 (joinC pa pm).a0 = true := less_num hvm.1
    have hn1 : lessB pa.a1 (joinC pa pm).a1 = true := less_num hvm.2.1
    have hn3 : lessB pa.a3 (joinC pa pm).a3 = true := less_num hvm.2.2.2.1
    have hn4 : lessB pa.a4 (joinC pa pm).a4 = true := less_num hvm.2.2.2.2.1
    have hn5 : lessB pa.a5 (joinC pa pm).a5 = true := less_num hvm.2.2.2.2.2
    have hn2 : (joinC pa pm).a2 ≥ pa.a2 := more_max _ _
    have ht0 : pa.b0 = true → (joinC pa pm).b0 = true := fun h => by show (pa.b0 || pm.b0) = true; rw [h]; rfl
    have ht1 : pa.b1 = true → (joinC pa pm).b1 = true := fun h => by show (pa.b1 || pm.b1) = true; rw [h]; rfl
    have ht2 : pa.b2 = true → (joinC pa pm).b2 = true := fun h => by show (pa.b2 || pm.b2) = true; rw [h]; rfl
    have ht3 : pa.b3 = true → (joinC pa pm).b3 = true := fun h => by show (pa.b3 || pm.b3) = true; rw [h]; rfl
    have ht4 : pa.b4 = true → (joinC pa pm).b4 = true := fun h => by show (pa.b4 || pm.b4) = true; rw [h]; rfl
    have ht5 : pa.b5 = true → (joinC pa pm).b5 = true := fun h => by show (pa.b5 || pm.b5) = true; rw [h]; rfl
    have ht6 : pa.b6 = true → (joinC pa pm).b6 = true := fun h => by show (pa.b6 || pm.b6) = true; rw [h]; rfl
    have ht7 : pa.b7 = true → (joinC pa pm).b7 = true := fun h => by show (pa.b7 || pm.b7) = true; rw [h]; rfl
    have ht8 : pa.b8 = true → (joinC pa pm).b8 = true := fun h => by show (pa.b8 || pm.b8) = true; rw [h]; rfl
    have hia := v_i64 hva
    have hib := v_i64 hvb
    generalize joinC pa pm = pb at *
    have HJ1 : Hid (∀ W, Below w.heap.size w W → Calls Tryd.prog 26 #[.agg (ctlA pa), .agg (ctlA pb)] W fun e w' => e = .returned (.agg (ctlA pb)) ∧ Below W.heap.size W w') := fun W hb => by have h := HJo.out pa pb W hb hva hvb; rw [hj1] at h; exact h
    have HJ2 : Hid (∀ W, Below w.heap.size w W → Calls Tryd.prog 26 #[.agg (ctlA pa), .agg (ctlA pa)] W fun e w' => e = .returned (.agg (ctlA pa)) ∧ Below W.heap.size W w') := fun W hb => by have h := HJo.out pa pa W hb hva hva; rw [hj2] at h; exact h
    have HJ3 : Hid (∀ W, Below w.heap.size w W → Calls Tryd.prog 26 #[.agg (ctlA noneC), .agg (ctlA pa)] W fun e w' => e = .returned (.agg (ctlA pa)) ∧ Below W.heap.size W w') := fun W hb => by have h := HJo.out noneC pa W hb v_none hva; rw [hj3] at h; exact h
    have HIa := Lib.hid hia
    have HNs := Lib.hid (And.intro hn0 (And.intro hn1 (And.intro hn2 (And.intro hn3 (And.intro hn4 hn5)))))
    have HTs := Lib.hid (And.intro ht0 (And.intro ht1 (And.intro ht2 (And.intro ht3 (And.intro ht4 (And.intro ht5 (And.intro ht6 (And.intro ht7 ht8))))))))
    clear hia hib hva hvm hvb hj1 hj2 hj3 hn0 hn1 hn2 hn3 hn4 hn5 ht0 ht1 ht2 ht3 ht4 ht5 ht6 ht7 ht8 HJo
    go_enter Tryd.func6, Tryd.ntmps6
    go_wp2_with fail
    refine (HLv.out _).mono ?_
    rintro e w1 ⟨rfl, hb1⟩
    have HB1 := Lib.hid hb1
    clear hb1
    go_wp2_with fail
    refine (HOw.out _ HB1.out).mono ?_
    rintro e w2 ⟨u, rfl, ho2, hb2⟩
    have HB2 := Lib.hid (HB1.out.trans (hb2.mono HB1.out.size))
    have HO2 := Lib.hid (own_base0 ho2 HB1.out.size)
    clear hb2 ho2
    go_wp2_with (at_builtin; refine wpList_addC rfl _ _ rfl w.heap.size u L m rfl rfl HO2.out HB2.out.size (by omega) ?_; intro u3 w3 ho3 hg3)
    have HB3 := Lib.hid ((HB2.out.alloc HB2.out.size _).trans (below_of_grown hg3 (HO2.out.alloc _) (by have := HB2.out.size; simp; omega)))
    refine (HLt.out _ u3 w3 ho3).mono ?_
    rintro e w4 ⟨rfl, rfl⟩
    clear ho3 hg3 HO2
    go_wp2_with fail
    refine (HPa.out _ HB3.out).mono ?_
    rintro e w5 ⟨rfl, hb5⟩
    have hB5 := HB3.out.trans (hb5.mono HB3.out.size)
    have hx5 : Bx (w5.alloc (.cells #[.int .i64 0, .int .i64 0, .int .i64 0, .int .i64 0, .int .i64 0, .int .i64 0, .bool false, .bool false, .bool false, .bool false, .bool false, .bool false, .bool false, .bool false, .bool false] 36)) w5.heap.size 36 (ctlA zeroC) := Bx.new w5 36 (ctlA zeroC)
    have hBa : Below w.heap.size w (w5.alloc (.cells #[.int .i64 0, .int .i64 0, .int .i64 0, .int .i64 0, .int .i64 0, .int .i64 0, .bool false, .bool false, .bool false, .bool false, .bool false, .bool false, .bool false, .bool false, .bool false] 36)) := hB5.alloc hB5.size _
    have hg5 : w.heap.size ≤ w5.heap.size := hB5.size
    clear hb5 hB5
    go_wp2_with (refine wpListC_store_row rfl _ _ _ rfl w5.heap.size _ (ctlA zeroC) (ctlA pa) rfl rfl hx5 (ctl_size _) rfl (ctl_one _) ?_)
    have hx6 := hx5.row (cs := ctlA pa)
    have hB6 := below_setRowC hBa (ctlA pa) hg5
    generalize (w5.alloc (.cells #[.int .i64 0, .int .i64 0, .int .i64 0, .int .i64 0, .int .i64 0, .int .i64 0, .bool false, .bool false, .bool false, .bool false, .bool false, .bool false, .bool false, .bool false, .bool false] 36)).setRow w5.heap.size (ctlA pa) = w6 at *
    generalize w5.heap.size = ga at *
    have HX6 := Lib.hid hx6
    have HB6 := Lib.hid hB6
    clear hx5 hBa hx6 hB6
    refine (HOw.out _ HB6.out).mono ?_
    rintro e w7 ⟨u7, rfl, ho7, hb7⟩
    have HB7 := Lib.hid (HB6.out.trans (hb7.mono HB6.out.size))
    have HO7 := Lib.hid (own_base0 ho7 HB6.out.size)
    have HX7 := Lib.hid (HX6.out.later hb7)
    clear hb7 ho7
    go_wp2_with (at_builtin; refine wpList_addC rfl _ _ rfl w.heap.size u7 L m rfl rfl HO7.out HB7.out.size (by omega) ?_; intro u8 w8 ho8 hg8)
    have hx7 := HX7.out.later (below_allocC w7 (Obj.cells #[.string (mkS m)] 9))
    have HX8 := Lib.hid (hx7.grown hg8 (Ne.symm (bx_not_row hx7 (HO7.out.alloc _) (by decide))))
    have HB8 := Lib.hid ((HB7.out.alloc HB7.out.size _).trans (below_of_grown hg8 (HO7.out.alloc _) (by have := HB7.out.size; simp; omega)))
    clear hx7
    refine (HPb.out _ u8 w8 ho8).mono ?_
    rintro e w9 ⟨rfl, hb9⟩
    have hX9 := HX8.out.later hb9
    have hB9 := HB8.out.trans (hb9.mono HB8.out.size)
    have hy9 : Bx (w9.alloc (.cells #[.int .i64 0, .int .i64 0, .int .i64 0, .int .i64 0, .int .i64 0, .int .i64 0, .bool false, .bool false, .bool false, .bool false, .bool false, .bool false, .bool false, .bool false, .bool false] 36)) w9.heap.size 36 (ctlA zeroC) := Bx.new w9 36 (ctlA zeroC)
    have hXa : Bx (w9.alloc (.cells #[.int .i64 0, .int .i64 0, .int .i64 0, .int .i64 0, .int .i64 0, .int .i64 0, .bool false, .bool false, .bool false, .bool false, .bool false, .bool false, .bool false, .bool false, .bool false] 36)) ga 36 (ctlA pa) := hX9.later (below_allocC _ _)
    have hBa : Below w.heap.size w (w9.alloc (.cells #[.int .i64 0, .int .i64 0, .int .i64 0, .int .i64 0, .int .i64 0, .int .i64 0, .bool false, .bool false, .bool false, .bool false, .bool false, .bool false, .bool false, .bool false, .bool false] 36)) := hB9.alloc hB9.size _
    have hg9 : w.heap.size ≤ w9.heap.size := hB9.size
    have hgab : ga < w9.heap.size := hX9.lt
    clear hb9 hB9 hX9 ho8 hg8 HO7
    go_upto_region 7 with (refine wpListC_store_row rfl _ _ _ rfl w9.heap.size _ (ctlA zeroC) (ctlA pb) rfl rfl hy9 (ctl_size _) rfl (ctl_one _) ?_)
    have hyA := hy9.row (cs := ctlA pb)
    have hxA : Bx ((w9.alloc (.cells #[.int .i64 0, .int .i64 0, .int .i64 0, .int .i64 0, .int .i64 0, .int .i64 0, .bool false, .bool false, .bool false, .bool false, .bool false, .bool false, .bool false, .bool false, .bool false] 36)).setRow w9.heap.size (ctlA pb)) ga 36 (ctlA pa) := hXa.same (setRow_other _ _ _ _ (by omega))
    have hBA := below_setRowC hBa (ctlA pb) hg9
    generalize (w9.alloc (.cells #[.int .i64 0, .int .i64 0, .int .i64 0, .int .i64 0, .int .i64 0, .int .i64 0, .bool false, .bool false, .bool false, .bool false, .bool false, .bool false, .bool false, .bool false, .bool false] 36)).setRow w9.heap.size (ctlA pb) = wA at *
    generalize w9.heap.size = gb at *
    have HXA := Lib.hid hxA
    have HYA := Lib.hid hyA
    have HBA := Lib.hid hBA
    clear hy9 hXa hBa hyA hxA hBA
    have hol := World.ownsRow_lit (base := w.heap.size) (e := 9) (size := 1) wA #[.string (mkS m)] 1 HBA.out.size (by decide) rfl
    have hbl := below_allocC wA (Obj.cells #[.string (mkS m)] 9)
    have HOl : Hid ((wA.alloc (Obj.cells #[.string (mkS m)] 9)).ownsRow w.heap.size 9 1 (.slice (some ⟨wA.heap.size, 0, none⟩) 1 1) [m].length (strs [m])) := hol
    have HXB := Lib.hid (HXA.out.later hbl)
    have HYB := Lib.hid (HYA.out.later hbl)
    have HBB := Lib.hid (HBA.out.trans (hbl.mono HBA.out.size))
    have HSB := Lib.hid (isStrsC_below HS.out HBB.out)
    clear hol hbl
    go_wp2_with (at_builtin; refine wpList_joinS rfl _ _ rfl w.heap.size _ _ [m] L rfl rfl HOl.out HSB.out HNl.out HBB.out.size (by simp; omega) ?_; intro uC wC hoC hgC)
    have HXC := Lib.hid (HXB.out.grown hgC (Ne.symm (bx_not_row HXB.out HOl.out (by decide))))
    have HYC := Lib.hid (HYB.out.grown hgC (Ne.symm (bx_not_row HYB.out HOl.out (by decide))))
    have HBC := Lib.hid (HBB.out.trans (below_of_grown hgC HOl.out HBB.out.size))
    refine (HPc.out _ uC wC hoC).mono ?_
    rintro e wD ⟨rfl, hbD⟩
    have hXD := HXC.out.later hbD
    have hYD := HYC.out.later hbD
    have hBD := HBC.out.trans (hbD.mono HBC.out.size)
    have hzE : Bx (wD.alloc (.cells #[.int .i64 0, .int .i64 0, .int .i64 0, .int .i64 0, .int .i64 0, .int .i64 0, .bool false, .bool false, .bool false, .bool false, .bool false, .bool false, .bool false, .bool false, .bool false] 36)) wD.heap.size 36 (ctlA zeroC) := Bx.new wD 36 (ctlA zeroC)
    have hXE : Bx (wD.alloc (.cells #[.int .i64 0, .int .i64 0, .int .i64 0, .int .i64 0, .int .i64 0, .int .i64 0, .bool false, .bool false, .bool false, .bool false, .bool false, .bool false, .bool false, .bool false, .bool false] 36)) ga 36 (ctlA pa) := hXD.later (below_allocC _ _)
    have hYE : Bx (wD.alloc (.cells #[.int .i64 0, .int .i64 0, .int .i64 0, .int .i64 0, .int .i64 0, .int .i64 0, .bool false, .bool false, .bool false, .bool false, .bool false, .bool false, .bool false, .bool false, .bool false] 36)) gb 36 (ctlA pb) := hYD.later (below_allocC _ _)
    have hBE : Below w.heap.size w (wD.alloc (.cells #[.int .i64 0, .int .i64 0, .int .i64 0, .int .i64 0, .int .i64 0, .int .i64 0, .bool false, .bool false, .bool false, .bool false, .bool false, .bool false, .bool false, .bool false, .bool false] 36)) := hBD.alloc hBD.size _
    have hgD : w.heap.size ≤ wD.heap.size := hBD.size
    have hgac : ga < wD.heap.size := hXD.lt
    have hgbc : gb < wD.heap.size := hYD.lt
    clear hbD hBD hXD hYD hoC hgC
    go_upto_region 9 with (refine wpListC_store_row rfl _ _ _ rfl wD.heap.size _ (ctlA zeroC) (ctlA pb) rfl rfl hzE (ctl_size _) rfl (ctl_one _) ?_)
    have hzF := hzE.row (cs := ctlA pb)
    have hxF : Bx ((wD.alloc (.cells #[.int .i64 0, .int .i64 0, .int .i64 0, .int .i64 0, .int .i64 0, .int .i64 0, .bool false, .bool false, .bool false, .bool false, .bool false, .bool false, .bool false, .bool false, .bool false] 36)).setRow wD.heap.size (ctlA pb)) ga 36 (ctlA pa) := hXE.same (setRow_other _ _ _ _ (by omega))
    have hyF : Bx ((wD.alloc (.cells #[.int .i64 0, .int .i64 0, .int .i64 0, .int .i64 0, .int .i64 0, .int .i64 0, .bool false, .bool false, .bool false, .bool false, .bool false, .bool false, .bool false, .bool false, .bool false] 36)).setRow wD.heap.size (ctlA pb)) gb 36 (ctlA pb) := hYE.same (setRow_other _ _ _ _ (by omega))
    have hBF := below_setRowC hBE (ctlA pb) hgD
    generalize (wD.alloc (.cells #[.int .i64 0, .int .i64 0, .int .i64 0, .int .i64 0, .int .i64 0, .int .i64 0, .bool false, .bool false, .bool false, .bool false, .bool false, .bool false, .bool false, .bool false, .bool false] 36)).setRow wD.heap.size (ctlA pb) = W at *
    generalize wD.heap.size = gc at *
    have HXF := Lib.hid hxF
    have HYF := Lib.hid hyF
    have HZF := Lib.hid hzF
    have HBF := Lib.hid hBF
    clear hzE hXE hYE hBE hxF hyF hzF hBF
    go_cut [9] from 33 (fun v9 wr => v9 = .bool true ∧ wr = W)
    case first =>
      obtain ⟨hn0, hn1, hn2, hn3, hn4, hn5⟩ := HNs.out
      have ca0 : W.cell? ⟨ga, 0, none⟩ = some (.int .i64 pa.a0) := HXF.out.cell 0 _ rfl
      have cb0 : W.cell? ⟨gb, 0, none⟩ = some (.int .i64 pb.a0) := HYF.out.cell 0 _ rfl
      have ca1 : W.cell? ⟨ga, 1, none⟩ = some (.int .i64 pa.a1) := HXF.out.cell 1 _ rfl
      have cb1 : W.cell? ⟨gb, 1, none⟩ = some (.int .i64 pb.a1) := HYF.out.cell 1 _ rfl
      have ca2 : W.cell? ⟨ga, 2, none⟩ = some (.int .i64 pa.a2) := HXF.out.cell 2 _ rfl
      have cb2 : W.cell? ⟨gb, 2, none⟩ = some (.int .i64 pb.a2) := HYF.out.cell 2 _ rfl
      have ca3 : W.cell? ⟨ga, 3, none⟩ = some (.int .i64 pa.a3) := HXF.out.cell 3 _ rfl
      have cb3 : W.cell? ⟨gb, 3, none⟩ = some (.int .i64 pb.a3) := HYF.out.cell 3 _ rfl
      have ca4 : W.cell? ⟨ga, 4, none⟩ = some (.int .i64 pa.a4) := HXF.out.cell 4 _ rfl
      have cb4 : W.cell? ⟨gb, 4, none⟩ = some (.int .i64 pb.a4) := HYF.out.cell 4 _ rfl
      have ca5 : W.cell? ⟨ga, 5, none⟩ = some (.int .i64 pa.a5) := HXF.out.cell 5 _ rfl
      have cb5 : W.cell? ⟨gb, 5, none⟩ = some (.int .i64 pb.a5) := HYF.out.cell 5 _ rfl
      have HL0 : Hid (∀ W2 : World, Calls Tryd.prog 29 #[.int .i64 pa.a0, .int .i64 pb.a0] W2 fun e w' => e = .returned (.bool true) ∧ W2 = w') := fun W2 => by have h := HLs.out pa.a0 pb.a0 W2; rw [hn0] at h; exact h
      have HL1 : Hid (∀ W2 : World, Calls Tryd.prog 29 #[.int .i64 pa.a1, .int .i64 pb.a1] W2 fun e w' => e = .returned (.bool true) ∧ W2 = w') := fun W2 => by have h := HLs.out pa.a1 pb.a1 W2; rw [hn1] at h; exact h
      have HL3 : Hid (∀ W2 : World, Calls Tryd.prog 29 #[.int .i64 pa.a3, .int .i64 pb.a3] W2 fun e w' => e = .returned (.bool true) ∧ W2 = w') := fun W2 => by have h := HLs.out pa.a3 pb.a3 W2; rw [hn3] at h; exact h
      have HL4 : Hid (∀ W2 : World, Calls Tryd.prog 29 #[.int .i64 pa.a4, .int .i64 pb.a4] W2 fun e w' => e = .returned (.bool true) ∧ W2 = w') := fun W2 => by have h := HLs.out pa.a4 pb.a4 W2; rw [hn4] at h; exact h
      have HL5 : Hid (∀ W2 : World, Calls Tryd.prog 29 #[.int .i64 pa.a5, .int .i64 pb.a5] W2 fun e w' => e = .returned (.bool true) ∧ W2 = w') := fun W2 => by have h := HLs.out pa.a5 pb.a5 W2; rw [hn5] at h; exact h
      have h2 : decide (pb.a2 ≥ pa.a2) = true := decide_eq_true hn2
      clear hn0 hn1 hn2 hn3 hn4 hn5
      go_wp2_with fail
      refine (HL0.out _).mono ?_
      rintro e w' ⟨rfl, rfl⟩
      go_wp2_with fail
      refine (HL1.out _).mono ?_
      rintro e w' ⟨rfl, rfl⟩
      go_wp2_with fail
      refine (HL3.out _).mono ?_
      rintro e w' ⟨rfl, rfl⟩
      go_wp2_with fail
      refine (HL4.out _).mono ?_
      rintro e w' ⟨rfl, rfl⟩
      go_wp2_with fail
      refine (HL5.out _).mono ?_
      rintro e w' ⟨rfl, rfl⟩
      go_wp2_with fail
      go_meet
      exact ⟨rfl, rfl⟩
    case rest =>
      obtain ⟨rfl, rfl⟩ := hcut
      go_upto_region 10 with fail
      go_cut [10] from 78 (fun v10 wr => v10 = .bool true ∧ wr = wc)
      case first J10 K10 hJ10 hK10 =>
        obtain ⟨ht0, ht1, ht2, ht3, ht4, ht5, ht6, ht7, ht8⟩ := HTs.out
        have ca0 : wc.cell? ⟨ga, 6, none⟩ = some (.bool pa.b0) := HXF.out.cell 6 _ rfl
        have cb0 : wc.cell? ⟨gb, 6, none⟩ = some (.bool pb.b0) := HYF.out.cell 6 _ rfl
        have ca1 : wc.cell? ⟨ga, 7, none⟩ = some (.bool pa.b1) := HXF.out.cell 7 _ rfl
        have cb1 : wc.cell? ⟨gb, 7, none⟩ = some (.bool pb.b1) := HYF.out.cell 7 _ rfl
        have ca2 : wc.cell? ⟨ga, 8, none⟩ = some (.bool pa.b2) := HXF.out.cell 8 _ rfl
        have cb2 : wc.cell? ⟨gb, 8, none⟩ = some (.bool pb.b2) := HYF.out.cell 8 _ rfl
        have ca3 : wc.cell? ⟨ga, 9, none⟩ = some (.bool pa.b3) := HXF.out.cell 9 _ rfl
        have cb3 : wc.cell? ⟨gb, 9, none⟩ = some (.bool pb.b3) := HYF.out.cell 9 _ rfl
        have ca4 : wc.cell? ⟨ga, 10, none⟩ = some (.bool pa.b4) := HXF.out.cell 10 _ rfl
        have cb4 : wc.cell? ⟨gb, 10, none⟩ = some (.bool pb.b4) := HYF.out.cell 10 _ rfl
        have ca5 : wc.cell? ⟨ga, 11, none⟩ = some (.bool pa.b5) := HXF.out.cell 11 _ rfl
        have cb5 : wc.cell? ⟨gb, 11, none⟩ = some (.bool pb.b5) := HYF.out.cell 11 _ rfl
        have ca6 : wc.cell? ⟨ga, 12, none⟩ = some (.bool pa.b6) := HXF.out.cell 12 _ rfl
        have cb6 : wc.cell? ⟨gb, 12, none⟩ = some (.bool pb.b6) := HYF.out.cell 12 _ rfl
        have ca7 : wc.cell? ⟨ga, 13, none⟩ = some (.bool pa.b7) := HXF.out.cell 13 _ rfl
        have cb7 : wc.cell? ⟨gb, 13, none⟩ = some (.bool pb.b7) := HYF.out.cell 13 _ rfl
        have ca8 : wc.cell? ⟨ga, 14, none⟩ = some (.bool pa.b8) := HXF.out.cell 14 _ rfl
        have cb8 : wc.cell? ⟨gb, 14, none⟩ = some (.bool pb.b8) := HYF.out.cell 14 _ rfl
        generalize pa.b0 = x0 at *
        generalize pb.b0 = y0 at *
        generalize pa.b1 = x1 at *
        generalize pb.b1 = y1 at *
        generalize pa.b2 = x2 at *
        generalize pb.b2 = y2 at *
        generalize pa.b3 = x3 at *
        generalize pb.b3 = y3 at *
        generalize pa.b4 = x4 at *
        generalize pb.b4 = y4 at *
        generalize pa.b5 = x5 at *
        generalize pb.b5 = y5 at *
        generalize pa.b6 = x6 at *
        generalize pb.b6 = y6 at *
        generalize pa.b7 = x7 at *
        generalize pb.b7 = y7 at *
        generalize pa.b8 = x8 at *
        generalize pb.b8 = y8 at *
        refine wp_region_lit ?_
        refine wpl_val (by rfl) (.pointer (some ⟨ga, 6, none⟩)) ?_ ?_
        · go_simp
        simp only [Act.put, List.setIfInBounds_toArray, List.set_cons_zero, List.set_cons_succ]
        refine wpl_val (by rfl) (.bool x0) ?_ ?_
        · go_simp
        simp only [Act.put, List.setIfInBounds_toArray, List.set_cons_zero, List.set_cons_succ]
        refine wpl_val (by rfl) (.bool (!x0)) ?_ ?_
        · go_simp
        simp only [Act.put, List.setIfInBounds_toArray, List.set_cons_zero, List.set_cons_succ]
        refine wpl_val (by rfl) (.bool (!x0)) ?_ ?_
        · go_simp
        simp only [Act.put, List.setIfInBounds_toArray, List.set_cons_zero, List.set_cons_succ]
        refine wpl_if x0 (by cases x0 <;> rfl) (.pointer (some ⟨gb, 6, none⟩)) ?_ ?_
        · intro hx; (try simp only [hx]); go_simp
        simp only [Act.put, List.setIfInBounds_toArray, List.set_cons_zero, List.set_cons_succ]
        refine wpl_if x0 (by cases x0 <;> rfl) (.bool y0) ?_ ?_
        · intro hx; (try simp only [hx, if_true]); go_simp
        simp only [Act.put, List.setIfInBounds_toArray, List.set_cons_zero, List.set_cons_succ]
        refine wpl_val (by rfl) (.bool true) ?_ ?_
        · cases hx : x0
          · (try simp only [hx]); go_simp
          · have hy := ht0 hx; (try simp only [hy, if_true]); go_simp
        simp only [Act.put, List.setIfInBounds_toArray, List.set_cons_zero, List.set_cons_succ]
        refine wpl_val (by rfl) (.bool true) ?_ ?_
        · go_simp
        simp only [Act.put, List.setIfInBounds_toArray, List.set_cons_zero, List.set_cons_succ]
        refine wpl_on (by rfl) (.pointer (some ⟨ga, 7, none⟩)) ?_ ?_
        · go_simp
        simp only [Act.put, List.setIfInBounds_toArray, List.set_cons_zero, List.set_cons_succ]
        refine wpl_on (by rfl) (.bool x1) ?_ ?_
        · go_simp
        simp only [Act.put, List.setIfInBounds_toArray, List.set_cons_zero, List.set_cons_succ]
        refine wpl_on (by rfl) (.bool (!x1)) ?_ ?_
        · go_simp
        simp only [Act.put, List.setIfInBounds_toArray, List.set_cons_zero, List.set_cons_succ]
        refine wpl_on (by rfl) (.bool (!x1)) ?_ ?_
        · go_simp
        simp only [Act.put, List.setIfInBounds_toArray, List.set_cons_zero, List.set_cons_succ]
        refine wpl_if x1 (by cases x1 <;> rfl) (.pointer (some ⟨gb, 7, none⟩)) ?_ ?_
        · intro hx; (try simp only [hx]); go_simp
        simp only [Act.put, List.setIfInBounds_toArray, List.set_cons_zero, List.set_cons_succ]
        refine wpl_if x1 (by cases x1 <;> rfl) (.bool y1) ?_ ?_
        · intro hx; (try simp only [hx, if_true]); go_simp
        simp only [Act.put, List.setIfInBounds_toArray, List.set_cons_zero, List.set_cons_succ]
        refine wpl_on (by rfl) (.bool true) ?_ ?_
        · cases hx : x1
          · (try simp only [hx]); go_simp
          · have hy := ht1 hx; (try simp only [hy, if_true]); go_simp
        simp only [Act.put, List.setIfInBounds_toArray, List.set_cons_zero, List.set_cons_succ]
        refine wpl_val (by rfl) (.bool true) ?_ ?_
        · go_simp
        simp only [Act.put, List.setIfInBounds_toArray, List.set_cons_zero, List.set_cons_succ]
        refine wpl_val (by rfl) (.bool true) ?_ ?_
        · go_simp
        simp only [Act.put, List.setIfInBounds_toArray, List.set_cons_zero, List.set_cons_succ]
        refine wpl_on (by rfl) (.pointer (some ⟨ga, 8, none⟩)) ?_ ?_
        · go_simp
        simp only [Act.put, List.setIfInBounds_toArray, List.set_cons_zero, List.set_cons_succ]
        refine wpl_on (by rfl) (.bool x2) ?_ ?_
        · go_simp
        simp only [Act.put, List.setIfInBounds_toArray, List.set_cons_zero, List.set_cons_succ]
        refine wpl_on (by rfl) (.bool (!x2)) ?_ ?_
        · go_simp
        simp only [Act.put, List.setIfInBounds_toArray, List.set_cons_zero, List.set_cons_succ]
        refine wpl_on (by rfl) (.bool (!x2)) ?_ ?_
        · go_simp
        simp only [Act.put, List.setIfInBounds_toArray, List.set_cons_zero, List.set_cons_succ]
        refine wpl_if x2 (by cases x2 <;> rfl) (.pointer (some ⟨gb, 8, none⟩)) ?_ ?_
        · intro hx; (try simp only [hx]); go_simp
        simp only [Act.put, List.setIfInBounds_toArray, List.set_cons_zero, List.set_cons_succ]
        refine wpl_if x2 (by cases x2 <;> rfl) (.bool y2) ?_ ?_
        · intro hx; (try simp only [hx, if_true]); go_simp
        simp only [Act.put, List.setIfInBounds_toArray, List.set_cons_zero, List.set_cons_succ]
        refine wpl_on (by rfl) (.bool true) ?_ ?_
        · cases hx : x2
          · (try simp only [hx]); go_simp
          · have hy := ht2 hx; (try simp only [hy, if_true]); go_simp
        simp only [Act.put, List.setIfInBounds_toArray, List.set_cons_zero, List.set_cons_succ]
        refine wpl_val (by rfl) (.bool true) ?_ ?_
        · go_simp
        simp only [Act.put, List.setIfInBounds_toArray, List.set_cons_zero, List.set_cons_succ]
        refine wpl_val (by rfl) (.bool true) ?_ ?_
        · go_simp
        simp only [Act.put, List.setIfInBounds_toArray, List.set_cons_zero, List.set_cons_succ]
        refine wpl_on (by rfl) (.pointer (some ⟨ga, 9, none⟩)) ?_ ?_
        · go_simp
        simp only [Act.put, List.setIfInBounds_toArray, List.set_cons_zero, List.set_cons_succ]
        refine wpl_on (by rfl) (.bool x3) ?_ ?_
        · go_simp
        simp only [Act.put, List.setIfInBounds_toArray, List.set_cons_zero, List.set_cons_succ]
        refine wpl_on (by rfl) (.bool (!x3)) ?_ ?_
        · go_simp
        simp only [Act.put, List.setIfInBounds_toArray, List.set_cons_zero, List.set_cons_succ]
        refine wpl_on (by rfl) (.bool (!x3)) ?_ ?_
        · go_simp
        simp only [Act.put, List.setIfInBounds_toArray, List.set_cons_zero, List.set_cons_succ]
        refine wpl_if x3 (by cases x3 <;> rfl) (.pointer (some ⟨gb, 9, none⟩)) ?_ ?_
        · intro hx; (try simp only [hx]); go_simp
        simp only [Act.put, List.setIfInBounds_toArray, List.set_cons_zero, List.set_cons_succ]
        refine wpl_if x3 (by cases x3 <;> rfl) (.bool y3) ?_ ?_
        · intro hx; (try simp only [hx, if_true]); go_simp
        simp only [Act.put, List.setIfInBounds_toArray, List.set_cons_zero, List.set_cons_succ]
        refine wpl_on (by rfl) (.bool true) ?_ ?_
        · cases hx : x3
          · (try simp only [hx]); go_simp
          · have hy := ht3 hx; (try simp only [hy, if_true]); go_simp
        simp only [Act.put, List.setIfInBounds_toArray, List.set_cons_zero, List.set_cons_succ]
        refine wpl_val (by rfl) (.bool true) ?_ ?_
        · go_simp
        simp only [Act.put, List.setIfInBounds_toArray, List.set_cons_zero, List.set_cons_succ]
        refine wpl_val (by rfl) (.bool true) ?_ ?_
        · go_simp
        simp only [Act.put, List.setIfInBounds_toArray, List.set_cons_zero, List.set_cons_succ]
        refine wpl_on (by rfl) (.pointer (some ⟨ga, 10, none⟩)) ?_ ?_
        · go_simp
        simp only [Act.put, List.setIfInBounds_toArray, List.set_cons_zero, List.set_cons_succ]
        refine wpl_on (by rfl) (.bool x4) ?_ ?_
        · go_simp
        simp only [Act.put, List.setIfInBounds_toArray, List.set_cons_zero, List.set_cons_succ]
        refine wpl_on (by rfl) (.bool (!x4)) ?_ ?_
        · go_simp
        simp only [Act.put, List.setIfInBounds_toArray, List.set_cons_zero, List.set_cons_succ]
        refine wpl_on (by rfl) (.bool (!x4)) ?_ ?_
        · go_simp
        simp only [Act.put, List.setIfInBounds_toArray, List.set_cons_zero, List.set_cons_succ]
        refine wpl_if x4 (by cases x4 <;> rfl) (.pointer (some ⟨gb, 10, none⟩)) ?_ ?_
        · intro hx; (try simp only [hx]); go_simp
        simp only [Act.put, List.setIfInBounds_toArray, List.set_cons_zero, List.set_cons_succ]
        refine wpl_if x4 (by cases x4 <;> rfl) (.bool y4) ?_ ?_
        · intro hx; (try simp only [hx, if_true]); go_simp
        simp only [Act.put, List.setIfInBounds_toArray, List.set_cons_zero, List.set_cons_succ]
        refine wpl_on (by rfl) (.bool true) ?_ ?_
        · cases hx : x4
          · (try simp only [hx]); go_simp
          · have hy := ht4 hx; (try simp only [hy, if_true]); go_simp
        simp only [Act.put, List.setIfInBounds_toArray, List.set_cons_zero, List.set_cons_succ]
        refine wpl_val (by rfl) (.bool true) ?_ ?_
        · go_simp
        simp only [Act.put, List.setIfInBounds_toArray, List.set_cons_zero, List.set_cons_succ]
        refine wpl_val (by rfl) (.bool true) ?_ ?_
        · go_simp
        simp only [Act.put, List.setIfInBounds_toArray, List.set_cons_zero, List.set_cons_succ]
        refine wpl_on (by rfl) (.pointer (some ⟨ga, 11, none⟩)) ?_ ?_
        · go_simp
        simp only [Act.put, List.setIfInBounds_toArray, List.set_cons_zero, List.set_cons_succ]
        refine wpl_on (by rfl) (.bool x5) ?_ ?_
        · go_simp
        simp only [Act.put, List.setIfInBounds_toArray, List.set_cons_zero, List.set_cons_succ]
        refine wpl_on (by rfl) (.bool (!x5)) ?_ ?_
        · go_simp
        simp only [Act.put, List.setIfInBounds_toArray, List.set_cons_zero, List.set_cons_succ]
        refine wpl_on (by rfl) (.bool (!x5)) ?_ ?_
        · go_simp
        simp only [Act.put, List.setIfInBounds_toArray, List.set_cons_zero, List.set_cons_succ]
        refine wpl_if x5 (by cases x5 <;> rfl) (.pointer (some ⟨gb, 11, none⟩)) ?_ ?_
        · intro hx; (try simp only [hx]); go_simp
        simp only [Act.put, List.setIfInBounds_toArray, List.set_cons_zero, List.set_cons_succ]
        refine wpl_if x5 (by cases x5 <;> rfl) (.bool y5) ?_ ?_
        · intro hx; (try simp only [hx, if_true]); go_simp
        simp only [Act.put, List.setIfInBounds_toArray, List.set_cons_zero, List.set_cons_succ]
        refine wpl_on (by rfl) (.bool true) ?_ ?_
        · cases hx : x5
          · (try simp only [hx]); go_simp
          · have hy := ht5 hx; (try simp only [hy, if_true]); go_simp
        simp only [Act.put, List.setIfInBounds_toArray, List.set_cons_zero, List.set_cons_succ]
        refine wpl_val (by rfl) (.bool true) ?_ ?_
        · go_simp
        simp only [Act.put, List.setIfInBounds_toArray, List.set_cons_zero, List.set_cons_succ]
        refine wpl_val (by rfl) (.bool true) ?_ ?_
        · go_simp
        simp only [Act.put, List.setIfInBounds_toArray, List.set_cons_zero, List.set_cons_succ]
        refine wpl_on (by rfl) (.pointer (some ⟨ga, 12, none⟩)) ?_ ?_
        · go_simp
        simp only [Act.put, List.setIfInBounds_toArray, List.set_cons_zero, List.set_cons_succ]
        refine wpl_on (by rfl) (.bool x6) ?_ ?_
        · go_simp
        simp only [Act.put, List.setIfInBounds_toArray, List.set_cons_zero, List.set_cons_succ]
        refine wpl_on (by rfl) (.bool (!x6)) ?_ ?_
        · go_simp
        simp only [Act.put, List.setIfInBounds_toArray, List.set_cons_zero, List.set_cons_succ]
        refine wpl_on (by rfl) (.bool (!x6)) ?_ ?_
        · go_simp
        simp only [Act.put, List.setIfInBounds_toArray, List.set_cons_zero, List.set_cons_succ]
        refine wpl_if x6 (by cases x6 <;> rfl) (.pointer (some ⟨gb, 12, none⟩)) ?_ ?_
        · intro hx; (try simp only [hx]); go_simp
        simp only [Act.put, List.setIfInBounds_toArray, List.set_cons_zero, List.set_cons_succ]
        refine wpl_if x6 (by cases x6 <;> rfl) (.bool y6) ?_ ?_
        · intro hx; (try simp only [hx, if_true]); go_simp
        simp only [Act.put, List.setIfInBounds_toArray, List.set_cons_zero, List.set_cons_succ]
        refine wpl_on (by rfl) (.bool true) ?_ ?_
        · cases hx : x6
          · (try simp only [hx]); go_simp
          · have hy := ht6 hx; (try simp only [hy, if_true]); go_simp
        simp only [Act.put, List.setIfInBounds_toArray, List.set_cons_zero, List.set_cons_succ]
        refine wpl_val (by rfl) (.bool true) ?_ ?_
        · go_simp
        simp only [Act.put, List.setIfInBounds_toArray, List.set_cons_zero, List.set_cons_succ]
        refine wpl_val (by rfl) (.bool true) ?_ ?_
        · go_simp
        simp only [Act.put, List.setIfInBounds_toArray, List.set_cons_zero, List.set_cons_succ]
        refine wpl_on (by rfl) (.pointer (some ⟨ga, 13, none⟩)) ?_ ?_
        · go_simp
        simp only [Act.put, List.setIfInBounds_toArray, List.set_cons_zero, List.set_cons_succ]
        refine wpl_on (by rfl) (.bool x7) ?_ ?_
        · go_simp
        simp only [Act.put, List.setIfInBounds_toArray, List.set_cons_zero, List.set_cons_succ]
        refine wpl_on (by rfl) (.bool (!x7)) ?_ ?_
        · go_simp
        simp only [Act.put, List.setIfInBounds_toArray, List.set_cons_zero, List.set_cons_succ]
        refine wpl_on (by rfl) (.bool (!x7)) ?_ ?_
        · go_simp
        simp only [Act.put, List.setIfInBounds_toArray, List.set_cons_zero, List.set_cons_succ]
        refine wpl_if x7 (by cases x7 <;> rfl) (.pointer (some ⟨gb, 13, none⟩)) ?_ ?_
        · intro hx; (try simp only [hx]); go_simp
        simp only [Act.put, List.setIfInBounds_toArray, List.set_cons_zero, List.set_cons_succ]
        refine wpl_if x7 (by cases x7 <;> rfl) (.bool y7) ?_ ?_
        · intro hx; (try simp only [hx, if_true]); go_simp
        simp only [Act.put, List.setIfInBounds_toArray, List.set_cons_zero, List.set_cons_succ]
        refine wpl_on (by rfl) (.bool true) ?_ ?_
        · cases hx : x7
          · (try simp only [hx]); go_simp
          · have hy := ht7 hx; (try simp only [hy, if_true]); go_simp
        simp only [Act.put, List.setIfInBounds_toArray, List.set_cons_zero, List.set_cons_succ]
        refine wpl_val (by rfl) (.bool true) ?_ ?_
        · go_simp
        simp only [Act.put, List.setIfInBounds_toArray, List.set_cons_zero, List.set_cons_succ]
        refine wpl_val (by rfl) (.bool true) ?_ ?_
        · go_simp
        simp only [Act.put, List.setIfInBounds_toArray, List.set_cons_zero, List.set_cons_succ]
        refine wpl_on (by rfl) (.pointer (some ⟨ga, 14, none⟩)) ?_ ?_
        · go_simp
        simp only [Act.put, List.setIfInBounds_toArray, List.set_cons_zero, List.set_cons_succ]
        refine wpl_on (by rfl) (.bool x8) ?_ ?_
        · go_simp
        simp only [Act.put, List.setIfInBounds_toArray, List.set_cons_zero, List.set_cons_succ]
        refine wpl_on (by rfl) (.bool (!x8)) ?_ ?_
        · go_simp
        simp only [Act.put, List.setIfInBounds_toArray, List.set_cons_zero, List.set_cons_succ]
        refine wpl_on (by rfl) (.bool (!x8)) ?_ ?_
        · go_simp
        simp only [Act.put, List.setIfInBounds_toArray, List.set_cons_zero, List.set_cons_succ]
        refine wpl_if x8 (by cases x8 <;> rfl) (.pointer (some ⟨gb, 14, none⟩)) ?_ ?_
        · intro hx; (try simp only [hx]); go_simp
        simp only [Act.put, List.setIfInBounds_toArray, List.set_cons_zero, List.set_cons_succ]
        refine wpl_if x8 (by cases x8 <;> rfl) (.bool y8) ?_ ?_
        · intro hx; (try simp only [hx, if_true]); go_simp
        simp only [Act.put, List.setIfInBounds_toArray, List.set_cons_zero, List.set_cons_succ]
        refine wpl_on (by rfl) (.bool true) ?_ ?_
        · cases hx : x8
          · (try simp only [hx]); go_simp
          · have hy := ht8 hx; (try simp only [hy, if_true]); go_simp
        simp only [Act.put, List.setIfInBounds_toArray, List.set_cons_zero, List.set_cons_succ]
        refine wpl_val (by rfl) (.bool true) ?_ ?_
        · go_simp
        simp only [Act.put, List.setIfInBounds_toArray, List.set_cons_zero, List.set_cons_succ]
        refine wpl_val (by rfl) (.bool true) ?_ ?_
        · go_simp
        simp only [Act.put, List.setIfInBounds_toArray, List.set_cons_zero, List.set_cons_succ]
        refine wpl_nil (then_normal (hK10 _ _ (Met.intro (hJ10 _ _ ?_))))
        (repeat apply Exists.intro)
        refine ⟨?rel, rfl⟩
        exact ⟨rfl, rfl⟩
      case rest =>
        obtain ⟨rfl, rfl⟩ := hcut
        go_wp2_with fail
        have HXd := Lib.hid (HXF.out.later (Below.refl _ _).drew)
        have HYd := Lib.hid (HYF.out.later (Below.refl _ _).drew)
        have HZd := Lib.hid (HZF.out.later (Below.refl _ _).drew)
        have hHeld0 : (fun Wz : World => Bx Wz ga 36 (ctlA pa) ∧ Bx Wz gb 36 (ctlA pb) ∧ Bx Wz gc 36 (ctlA pb) ∧ Below w.heap.size w Wz) wc.drew := ⟨HXd.out, HYd.out, HZd.out, HBF.out.drew⟩
        refine wp_region_held_drew (S := (fun Wz : World => Bx Wz ga 36 (ctlA pa) ∧ Bx Wz gb 36 (ctlA pb) ∧ Bx Wz gc 36 (ctlA pb) ∧ Below w.heap.size w Wz)) (by kernel_rfl) hHeld0 (fun hHeld => ?_)
        refine wpAnyH_take (i := 0) (v := .agg (ctlA pb)) rfl (by kernel_rfl) (by kernel_rfl) (by kernel_rfl) (fun _ _ _ h => h) (Or.inl ⟨by kernel_rfl, ?_⟩) (by assumption) ?_
        case refine_1 => exact fun Wz hSw => exec_load_row _ _ (by rfl) gb _ (ctlA pb) (0, 0) _ (by rfl) hSw.2.1 Tryd.underlying36 rfl (ctl_size pb)
        try simp only [Act.put, List.getElem_toArray, List.getElem_cons_zero, List.setIfInBounds_toArray, List.set_cons_zero, List.set_cons_succ]
        refine wpAnyH_take (i := 1) (v := .agg (ctlA pb)) rfl (by kernel_rfl) (by kernel_rfl) (by kernel_rfl) (fun _ _ _ h => h) (Or.inl ⟨by kernel_rfl, ?_⟩) (by assumption) ?_
        case refine_1 => exact fun Wz hSw => exec_load_row _ _ (by rfl) gc _ (ctlA pb) (0, 0) _ (by rfl) hSw.2.2.1 Tryd.underlying36 rfl (ctl_size pb)
        try simp only [Act.put, List.getElem_toArray, List.getElem_cons_succ, List.getElem_cons_zero, List.setIfInBounds_toArray, List.set_cons_zero, List.set_cons_succ]
        refine wpAnyH_take (i := 2) (v := .bool true) rfl (by kernel_rfl) (by kernel_rfl) (by kernel_rfl) (fun _ _ _ h => h) (Or.inl ⟨by kernel_rfl, ?_⟩) (by assumption) ?_
        case refine_1 => exact fun Wz hSw => exec_eql _ _ (by rfl) (ctlA pb) (ctlA pb) true (by rfl) (by rfl) (ctl_eql Wz pb) guardC
        try simp only [Act.put, List.getElem_toArray, List.getElem_cons_succ, List.getElem_cons_zero, List.setIfInBounds_toArray, List.set_cons_zero, List.set_cons_succ]
        refine wpAnyH_take (i := 3) (v := ?_) rfl (by kernel_rfl) (by kernel_rfl) (by kernel_rfl) (fun _ _ _ h => h) (Or.inl ⟨by kernel_rfl, ?_⟩) (by assumption) ?_
        case refine_2 => (intro Wz hSw; go_simp; try with_reducible rfl)
        try simp only [Act.put, List.getElem_toArray, List.getElem_cons_succ, List.getElem_cons_zero, List.setIfInBounds_toArray, List.set_cons_zero, List.set_cons_succ]
        refine wpAnyH_take (i := 4) (v := .bool true) rfl (by kernel_rfl) (by kernel_rfl) (by kernel_rfl) (fun _ _ _ h => h) (Or.inl ⟨by kernel_rfl, ?_⟩) (by assumption) ?_
        case refine_1 => (intro Wz hSw; go_simp; try with_reducible rfl)
        try simp only [Act.put, List.getElem_toArray, List.getElem_cons_succ, List.getElem_cons_zero, List.setIfInBounds_toArray, List.set_cons_zero, List.set_cons_succ]
        refine wpAnyH_take (i := 5) (v := .bool true) rfl (by kernel_rfl) (by kernel_rfl) (by kernel_rfl) (fun _ _ _ h => h) (Or.inl ⟨by kernel_rfl, ?_⟩) (by assumption) ?_
        case refine_1 => (intro Wz hSw; go_simp; try with_reducible rfl)
        try simp only [Act.put, List.getElem_toArray, List.getElem_cons_succ, List.getElem_cons_zero, List.setIfInBounds_toArray, List.set_cons_zero, List.set_cons_succ]
        refine wpAnyH_take (i := 6) (v := ?_) rfl (by kernel_rfl) (by kernel_rfl) (by kernel_rfl) (fun _ _ _ h => h) (Or.inl ⟨by kernel_rfl, ?_⟩) (by assumption) ?_
        case refine_2 => (intro Wz hSw; go_simp; try with_reducible rfl)
        try simp only [Act.put, List.getElem_toArray, List.getElem_cons_succ, List.getElem_cons_zero, List.setIfInBounds_toArray, List.set_cons_zero, List.set_cons_succ]
        refine wpAnyH_take (i := 7) (v := .bool true) rfl (by kernel_rfl) (by kernel_rfl) (by kernel_rfl) (fun _ _ _ h => h) (Or.inl ⟨by kernel_rfl, ?_⟩) (by assumption) ?_
        case refine_1 => (intro Wz hSw; go_simp; try with_reducible rfl)
        try simp only [Act.put, List.getElem_toArray, List.getElem_cons_succ, List.getElem_cons_zero, List.setIfInBounds_toArray, List.set_cons_zero, List.set_cons_succ]
        refine wpAnyH_take (i := 8) (v := .bool true) rfl (by kernel_rfl) (by kernel_rfl) (by kernel_rfl) (fun _ _ _ h => h) (Or.inl ⟨by kernel_rfl, ?_⟩) (by assumption) ?_
        case refine_1 => (intro Wz hSw; go_simp; try with_reducible rfl)
        try simp only [Act.put, List.getElem_toArray, List.getElem_cons_succ, List.getElem_cons_zero, List.setIfInBounds_toArray, List.set_cons_zero, List.set_cons_succ]
        refine wpAnyH_take (i := 9) (v := ?_) rfl (by kernel_rfl) (by kernel_rfl) (by kernel_rfl) (fun _ _ _ h => h) (Or.inl ⟨by kernel_rfl, ?_⟩) (by assumption) ?_
        case refine_2 => (intro Wz hSw; go_simp; try with_reducible rfl)
        try simp only [Act.put, List.getElem_toArray, List.getElem_cons_succ, List.getElem_cons_zero, List.setIfInBounds_toArray, List.set_cons_zero, List.set_cons_succ]
        refine wpAnyH_take (i := 10) (v := .agg (ctlA pa)) rfl (by kernel_rfl) (by kernel_rfl) (by kernel_rfl) (fun _ _ _ h => h) (Or.inl ⟨by kernel_rfl, ?_⟩) (by assumption) ?_
        case refine_1 => exact fun Wz hSw => exec_load_row _ _ (by rfl) ga _ (ctlA pa) (0, 0) _ (by rfl) hSw.1 Tryd.underlying36 rfl (ctl_size pa)
        try simp only [Act.put, List.getElem_toArray, List.getElem_cons_succ, List.getElem_cons_zero, List.setIfInBounds_toArray, List.set_cons_zero, List.set_cons_succ]
        refine wpAnyH_take (i := 11) (v := .agg (ctlA pb)) rfl (by kernel_rfl) (by kernel_rfl) (by kernel_rfl) (fun _ _ _ h => h) (Or.inl ⟨by kernel_rfl, ?_⟩) (by assumption) ?_
        case refine_1 => exact fun Wz hSw => exec_load_row _ _ (by rfl) gb _ (ctlA pb) (0, 0) _ (by rfl) hSw.2.1 Tryd.underlying36 rfl (ctl_size pb)
        try simp only [Act.put, List.getElem_toArray, List.getElem_cons_succ, List.getElem_cons_zero, List.setIfInBounds_toArray, List.set_cons_zero, List.set_cons_succ]
        refine wpAnyH_take (i := 13) (v := .agg (ctlA pb)) rfl (by kernel_rfl) (by kernel_rfl) (by kernel_rfl) (fun _ _ _ h => h) (Or.inl ⟨by kernel_rfl, ?_⟩) (by assumption) ?_
        case refine_1 => exact fun Wz hSw => exec_load_row _ _ (by rfl) gb _ (ctlA pb) (0, 0) _ (by rfl) hSw.2.1 Tryd.underlying36 rfl (ctl_size pb)
        try simp only [Act.put, List.getElem_toArray, List.getElem_cons_succ, List.getElem_cons_zero, List.setIfInBounds_toArray, List.set_cons_zero, List.set_cons_succ]
        refine wpAnyH_ready (rs := [12]) (by kernel_rfl) (by simp) ?_
        refine AllReadyH.cons rfl (fun K hK => ?_) AllReadyH.nil
        go_simp
        refine (HJ1.out _ hHeld0.2.2.2).mono ?_
        rintro e z1 ⟨rfl, hbb⟩
        have hHeld1 : (fun Wz : World => Bx Wz ga 36 (ctlA pa) ∧ Bx Wz gb 36 (ctlA pb) ∧ Bx Wz gc 36 (ctlA pb) ∧ Below w.heap.size w Wz) z1 := ⟨hHeld0.1.later hbb, hHeld0.2.1.later hbb, hHeld0.2.2.1.later hbb, hHeld0.2.2.2.trans (hbb.mono hHeld0.2.2.2.size)⟩
        clear hbb
        go_simp
        refine hK.out _ _ hHeld1 (fun hHeld2 => ?_)
        clear hK K hHeld2
        try simp only [Act.put, List.getElem_toArray, List.getElem_cons_succ, List.getElem_cons_zero, List.setIfInBounds_toArray, List.set_cons_zero, List.set_cons_succ]
        refine wpAnyH_take (i := 14) (v := .bool true) rfl (by kernel_rfl) (by kernel_rfl) (by kernel_rfl) (fun _ _ _ h => h) (Or.inl ⟨by kernel_rfl, ?_⟩) (by assumption) ?_
        case refine_1 => exact fun Wz hSw => exec_eql _ _ (by rfl) (ctlA pb) (ctlA pb) true (by rfl) (by rfl) (ctl_eql Wz pb) guardC
        try simp only [Act.put, List.getElem_toArray, List.getElem_cons_succ, List.getElem_cons_zero, List.setIfInBounds_toArray, List.set_cons_zero, List.set_cons_succ]
        refine wpAnyH_take (i := 15) (v := .bool true) rfl (by kernel_rfl) (by kernel_rfl) (by kernel_rfl) (fun _ _ _ h => h) (Or.inl ⟨by kernel_rfl, ?_⟩) (by assumption) ?_
        case refine_1 => (intro Wz hSw; go_simp; try with_reducible rfl)
        try simp only [Act.put, List.getElem_toArray, List.getElem_cons_succ, List.getElem_cons_zero, List.setIfInBounds_toArray, List.set_cons_zero, List.set_cons_succ]
        refine wpAnyH_take (i := 16) (v := ?_) rfl (by kernel_rfl) (by kernel_rfl) (by kernel_rfl) (fun _ _ _ h => h) (Or.inl ⟨by kernel_rfl, ?_⟩) (by assumption) ?_
        case refine_2 => (intro Wz hSw; go_simp; try with_reducible rfl)
        try simp only [Act.put, List.getElem_toArray, List.getElem_cons_succ, List.getElem_cons_zero, List.setIfInBounds_toArray, List.set_cons_zero, List.set_cons_succ]
        refine wpAnyH_take (i := 17) (v := .agg (ctlA pa)) rfl (by kernel_rfl) (by kernel_rfl) (by kernel_rfl) (fun _ _ _ h => h) (Or.inl ⟨by kernel_rfl, ?_⟩) (by assumption) ?_
        case refine_1 => exact fun Wz hSw => exec_load_row _ _ (by rfl) ga _ (ctlA pa) (0, 0) _ (by rfl) hSw.1 Tryd.underlying36 rfl (ctl_size pa)
        try simp only [Act.put, List.getElem_toArray, List.getElem_cons_succ, List.getElem_cons_zero, List.setIfInBounds_toArray, List.set_cons_zero, List.set_cons_succ]
        refine wpAnyH_take (i := 18) (v := .agg (ctlA pa)) rfl (by kernel_rfl) (by kernel_rfl) (by kernel_rfl) (fun _ _ _ h => h) (Or.inl ⟨by kernel_rfl, ?_⟩) (by assumption) ?_
        case refine_1 => exact fun Wz hSw => exec_load_row _ _ (by rfl) ga _ (ctlA pa) (0, 0) _ (by rfl) hSw.1 Tryd.underlying36 rfl (ctl_size pa)
        try simp only [Act.put, List.getElem_toArray, List.getElem_cons_succ, List.getElem_cons_zero, List.setIfInBounds_toArray, List.set_cons_zero, List.set_cons_succ]
        refine wpAnyH_take (i := 20) (v := .agg (ctlA pa)) rfl (by kernel_rfl) (by kernel_rfl) (by kernel_rfl) (fun _ _ _ h => h) (Or.inl ⟨by kernel_rfl, ?_⟩) (by assumption) ?_
        case refine_1 => exact fun Wz hSw => exec_load_row _ _ (by rfl) ga _ (ctlA pa) (0, 0) _ (by rfl) hSw.1 Tryd.underlying36 rfl (ctl_size pa)
        try simp only [Act.put, List.getElem_toArray, List.getElem_cons_succ, List.getElem_cons_zero, List.setIfInBounds_toArray, List.set_cons_zero, List.set_cons_succ]
        refine wpAnyH_ready (rs := [19]) (by kernel_rfl) (by simp) ?_
        refine AllReadyH.cons rfl (fun K hK => ?_) AllReadyH.nil
        go_simp
        refine (HJ2.out _ hHeld1.2.2.2).mono ?_
        rintro e z2 ⟨rfl, hbb⟩
        have hHeld2 : (fun Wz : World => Bx Wz ga 36 (ctlA pa) ∧ Bx Wz gb 36 (ctlA pb) ∧ Bx Wz gc 36 (ctlA pb) ∧ Below w.heap.size w Wz) z2 := ⟨hHeld1.1.later hbb, hHeld1.2.1.later hbb, hHeld1.2.2.1.later hbb, hHeld1.2.2.2.trans (hbb.mono hHeld1.2.2.2.size)⟩
        clear hbb
        go_simp
        refine hK.out _ _ hHeld2 (fun hHeld2 => ?_)
        clear hK K hHeld2
        try simp only [Act.put, List.getElem_toArray, List.getElem_cons_succ, List.getElem_cons_zero, List.setIfInBounds_toArray, List.set_cons_zero, List.set_cons_succ]
        refine wpAnyH_take (i := 21) (v := .bool true) rfl (by kernel_rfl) (by kernel_rfl) (by kernel_rfl) (fun _ _ _ h => h) (Or.inl ⟨by kernel_rfl, ?_⟩) (by assumption) ?_
        case refine_1 => exact fun Wz hSw => exec_eql _ _ (by rfl) (ctlA pa) (ctlA pa) true (by rfl) (by rfl) (ctl_eql Wz pa) guardC
        try simp only [Act.put, List.getElem_toArray, List.getElem_cons_succ, List.getElem_cons_zero, List.setIfInBounds_toArray, List.set_cons_zero, List.set_cons_succ]
        refine wpAnyH_take (i := 22) (v := .bool true) rfl (by kernel_rfl) (by kernel_rfl) (by kernel_rfl) (fun _ _ _ h => h) (Or.inl ⟨by kernel_rfl, ?_⟩) (by assumption) ?_
        case refine_1 => (intro Wz hSw; go_simp; try with_reducible rfl)
        try simp only [Act.put, List.getElem_toArray, List.getElem_cons_succ, List.getElem_cons_zero, List.setIfInBounds_toArray, List.set_cons_zero, List.set_cons_succ]
        refine wpAnyH_take (i := 23) (v := ?_) rfl (by kernel_rfl) (by kernel_rfl) (by kernel_rfl) (fun _ _ _ h => h) (Or.inl ⟨by kernel_rfl, ?_⟩) (by assumption) ?_
        case refine_2 => (intro Wz hSw; go_simp; try with_reducible rfl)
        try simp only [Act.put, List.getElem_toArray, List.getElem_cons_succ, List.getElem_cons_zero, List.setIfInBounds_toArray, List.set_cons_zero, List.set_cons_succ]
        refine wpAnyH_take (i := 24) (v := .agg (ctlA pa)) rfl (by kernel_rfl) (by kernel_rfl) (by kernel_rfl) (fun _ _ _ h => h) (Or.inl ⟨by kernel_rfl, ?_⟩) (by assumption) ?_
        case refine_1 => exact fun Wz hSw => exec_load_row _ _ (by rfl) ga _ (ctlA pa) (0, 0) _ (by rfl) hSw.1 Tryd.underlying36 rfl (ctl_size pa)
        try simp only [Act.put, List.getElem_toArray, List.getElem_cons_succ, List.getElem_cons_zero, List.setIfInBounds_toArray, List.set_cons_zero, List.set_cons_succ]
        refine wpAnyH_take (i := 27) (v := .agg (ctlA pa)) rfl (by kernel_rfl) (by kernel_rfl) (by kernel_rfl) (fun _ _ _ h => h) (Or.inl ⟨by kernel_rfl, ?_⟩) (by assumption) ?_
        case refine_1 => exact fun Wz hSw => exec_load_row _ _ (by rfl) ga _ (ctlA pa) (0, 0) _ (by rfl) hSw.1 Tryd.underlying36 rfl (ctl_size pa)
        try simp only [Act.put, List.getElem_toArray, List.getElem_cons_succ, List.getElem_cons_zero, List.setIfInBounds_toArray, List.set_cons_zero, List.set_cons_succ]
        refine wpAnyH_ready (rs := [25]) (by kernel_rfl) (by simp) ?_
        refine AllReadyH.cons rfl (fun K hK => ?_) AllReadyH.nil
        go_simp
        refine (HTx.out pa _ hHeld2.2.2.2 HIa.out).mono ?_
        rintro e z3 ⟨rfl, hbb⟩
        have hHeld3 : (fun Wz : World => Bx Wz ga 36 (ctlA pa) ∧ Bx Wz gb 36 (ctlA pb) ∧ Bx Wz gc 36 (ctlA pb) ∧ Below w.heap.size w Wz) z3 := ⟨hHeld2.1.later hbb, hHeld2.2.1.later hbb, hHeld2.2.2.1.later hbb, hHeld2.2.2.2.trans (hbb.mono hHeld2.2.2.2.size)⟩
        clear hbb
        go_simp
        refine hK.out _ _ hHeld3 (fun hHeld2 => ?_)
        clear hK K hHeld2
        try simp only [Act.put, List.getElem_toArray, List.getElem_cons_succ, List.getElem_cons_zero, List.setIfInBounds_toArray, List.set_cons_zero, List.set_cons_succ]
        refine wpAnyH_ready (rs := [26]) (by kernel_rfl) (by simp) ?_
        refine AllReadyH.cons rfl (fun K hK => ?_) AllReadyH.nil
        go_simp
        refine (HN.out _).mono ?_
        rintro e z4 ⟨rfl, hbb⟩
        have hHeld4 : (fun Wz : World => Bx Wz ga 36 (ctlA pa) ∧ Bx Wz gb 36 (ctlA pb) ∧ Bx Wz gc 36 (ctlA pb) ∧ Below w.heap.size w Wz) z4 := ⟨hHeld3.1.later hbb, hHeld3.2.1.later hbb, hHeld3.2.2.1.later hbb, hHeld3.2.2.2.trans (hbb.mono hHeld3.2.2.2.size)⟩
        clear hbb
        go_simp
        refine hK.out _ _ hHeld4 (fun hHeld2 => ?_)
        clear hK K hHeld2
        try simp only [Act.put, List.getElem_toArray, List.getElem_cons_succ, List.getElem_cons_zero, List.setIfInBounds_toArray, List.set_cons_zero, List.set_cons_succ]
        refine wpAnyH_ready (rs := [28]) (by kernel_rfl) (by simp) ?_
        refine AllReadyH.cons rfl (fun K hK => ?_) AllReadyH.nil
        go_simp
        refine (HJ3.out _ hHeld4.2.2.2).mono ?_
        rintro e z5 ⟨rfl, hbb⟩
        have hHeld5 : (fun Wz : World => Bx Wz ga 36 (ctlA pa) ∧ Bx Wz gb 36 (ctlA pb) ∧ Bx Wz gc 36 (ctlA pb) ∧ Below w.heap.size w Wz) z5 := ⟨hHeld4.1.later hbb, hHeld4.2.1.later hbb, hHeld4.2.2.1.later hbb, hHeld4.2.2.2.trans (hbb.mono hHeld4.2.2.2.size)⟩
        clear hbb
        go_simp
        refine hK.out _ _ hHeld5 (fun hHeld2 => ?_)
        clear hK K hHeld2
        try simp only [Act.put, List.getElem_toArray, List.getElem_cons_succ, List.getElem_cons_zero, List.setIfInBounds_toArray, List.set_cons_zero, List.set_cons_succ]
        refine wpAnyH_ready (rs := [29]) (by kernel_rfl) (by simp) ?_
        refine AllReadyH.cons rfl (fun K hK => ?_) AllReadyH.nil
        go_simp
        refine (HTx.out pa _ hHeld5.2.2.2 HIa.out).mono ?_
        rintro e z6 ⟨rfl, hbb⟩
        have hHeld6 : (fun Wz : World => Bx Wz ga 36 (ctlA pa) ∧ Bx Wz gb 36 (ctlA pb) ∧ Bx Wz gc 36 (ctlA pb) ∧ Below w.heap.size w Wz) z6 := ⟨hHeld5.1.later hbb, hHeld5.2.1.later hbb, hHeld5.2.2.1.later hbb, hHeld5.2.2.2.trans (hbb.mono hHeld5.2.2.2.size)⟩
        clear hbb
        go_simp
        refine hK.out _ _ hHeld6 (fun hHeld2 => ?_)
        clear hK K hHeld2
        try simp only [Act.put, List.getElem_toArray, List.getElem_cons_succ, List.getElem_cons_zero, List.setIfInBounds_toArray, List.set_cons_zero, List.set_cons_succ]
        refine wpAnyH_ready (rs := [30]) (by kernel_rfl) (by simp) ?_
        refine AllReadyH.cons rfl (fun K hK => ?_) AllReadyH.nil
        go_simp
        refine (HSm.out pa _ HIa.out).mono ?_
        rintro e z7 ⟨rfl, hbb⟩
        have hHeld7 : (fun Wz : World => Bx Wz ga 36 (ctlA pa) ∧ Bx Wz gb 36 (ctlA pb) ∧ Bx Wz gc 36 (ctlA pb) ∧ Below w.heap.size w Wz) z7 := ⟨hHeld6.1.later hbb, hHeld6.2.1.later hbb, hHeld6.2.2.1.later hbb, hHeld6.2.2.2.trans (hbb.mono hHeld6.2.2.2.size)⟩
        clear hbb
        go_simp
        refine hK.out _ _ hHeld7 (fun hHeld2 => ?_)
        clear hK K hHeld2
        try simp only [Act.put, List.getElem_toArray, List.getElem_cons_succ, List.getElem_cons_zero, List.setIfInBounds_toArray, List.set_cons_zero, List.set_cons_succ]
        refine wpAnyH_take (i := 31) (v := .bool true) rfl (by kernel_rfl) (by kernel_rfl) (by kernel_rfl) (fun _ _ _ h => h) (Or.inl ⟨by kernel_rfl, ?_⟩) (by assumption) ?_
        case refine_1 => (intro Wz hSw; go_simp; try with_reducible rfl)
        try simp only [Act.put, List.getElem_toArray, List.getElem_cons_succ, List.getElem_cons_zero, List.setIfInBounds_toArray, List.set_cons_zero, List.set_cons_succ]
        refine wpAnyH_take (i := 32) (v := ?_) rfl (by kernel_rfl) (by kernel_rfl) (by kernel_rfl) (fun _ _ _ h => h) (Or.inl ⟨by kernel_rfl, ?_⟩) (by assumption) ?_
        case refine_2 => (intro Wz hSw; go_simp; try with_reducible rfl)
        try simp only [Act.put, List.getElem_toArray, List.getElem_cons_succ, List.getElem_cons_zero, List.setIfInBounds_toArray, List.set_cons_zero, List.set_cons_succ]
        refine wpAnyH_done (by kernel_rfl) ?_ _
        go_wp2_with fail
        go_ret
        exact ⟨rfl, hHeld7.2.2.2⟩
end Tk
end Go.Proofs.YtdmjpfmjfffmiaaDoor
