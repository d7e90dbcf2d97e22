/- The law FieldSets. -/
import Derived.Test.YtogdmhgblceddaaDoorFldU
import Derived.Test.YtogdmhgblceddaaDoorSame
import Derived.Test.YtogdmhgblceddaaDoorRefL
namespace Go.Proofs.YtogdmhgblceddaaDoor
open Go.RowKit
namespace Tk

set_option maxRecDepth 100000 in
set_option maxHeartbeats 2000000 in
theorem rsame_any (s t : ByteArray) (w : World) (hs : s.size ≤ 1099511627776) (ht : t.size ≤ 1099511627776) :
    Calls Tryd.prog 58 #[.string s, .string t] w fun e w' => e = .returned (.bool (decide (lowL (bs s) = lowL (bs t)))) ∧ Below w.heap.size w w' := by
  have H1 := Lib.hid (fun W : World => refLower_any s W hs)
  have H2 := Lib.hid (fun W : World => refLower_any t W ht)
  have HD := Lib.hid (beq_mkS' (lowL (bs s)) (lowL (bs t)))
  go_enter Tryd.func58, Tryd.ntmps58
  go_wp2_with fail
  refine (H1.out _).mono ?_
  rintro e w1 ⟨rfl, hb⟩
  have HB1 := Lib.hid hb
  clear hb
  go_wp2_with fail
  refine (H2.out _).mono ?_
  rintro e w2 ⟨rfl, hb⟩
  have HB2 := Lib.hid (HB1.out.trans (hb.mono HB1.out.size))
  clear hb
  have hd := HD.out
  go_wp2_with fail
  go_ret
  exact ⟨by first | rfl | rw [hd], HB2.out⟩

set_option maxRecDepth 100000 in
set_option maxHeartbeats 4000000 in
theorem sets_big (v : Value) (l : List (Bs × Bs)) (name value other : ByteArray) (w : World) (hs : IsFlds w v l) (z : ∀ f ∈ l, f.1.length ≤ 140737488351232 ∧ f.2.length ≤ 140737488351232) (hl : l.length ≤ 140737488351232)
    (hb : lightF l = false ∨ (lightF l = true ∧ (60 < name.size ∨ (name.size ≤ 60 ∧ (100 < value.size ∨ (value.size ≤ 100 ∧ 60 < other.size)))))) :
    Calls Tryd.prog 11 #[v, .string name, .string value, .string other] w (Yes2 w) := by
  have HL := Lib.hid (lives02_any w)
  have HB := Lib.hid (fun (W : World) (h : Below w.heap.size w W) => light02_any v l W (isFlds_below hs h) z hl)
  obtain ⟨a1, c1, rfl⟩ : ∃ a cap, v = .slice a l.length cap := by obtain ⟨a, c, h, -⟩ := hs; exact ⟨a, c, h⟩
  clear hs z
  rcases hb with hb | ⟨hb, k | ⟨k1, k | ⟨k2, k⟩⟩⟩
  all_goals
    rw [hb] at HB
    clear hb
    go_enter Tryd.func11, Tryd.ntmps11
    go_wp2_with fail
    refine HL.out.mono ?_
    rintro e w1 ⟨rfl, hb⟩
    have HB1 := Lib.hid hb
    clear hb
    go_wp2_with fail
    refine (HB.out _ HB1.out).mono ?_
    rintro e w2 ⟨rfl, n, rfl⟩
    try have m0 : (60 : Int) < (name.size : Int) := by omega
    try have m1 : ¬ (60 : Int) < (name.size : Int) := by omega
    try have m2 : (100 : Int) < (value.size : Int) := by omega
    try have m3 : ¬ (100 : Int) < (value.size : Int) := by omega
    try have m4 : (60 : Int) < (other.size : Int) := by omega
    go_wp2_with fail
    go_ret
    exact ⟨rfl, below_some_draws HB1.out n⟩

def Sm (l : List (Bs × Bs)) : Prop := ∀ f ∈ l, f.1.length ≤ 1099511627776 ∧ f.2.length ≤ 1099511627776
theorem sm_del {l : List (Bs × Bs)} (h : Sm l) (name : Bs) : Sm (delF name l) := fun f hf => h f (List.mem_filter.1 hf).1
theorem sm_set {l : List (Bs × Bs)} (h : Sm l) (name x : Bs) (hn : name.length ≤ 1099511627776) (hx : x.length ≤ 1099511627776) : Sm (setF name x l) := by
  by_cases hi : l.findIdx (isN name) < l.length
  · obtain ⟨a, f, b, hl, -, -, hs⟩ := cut_at name l hi
    rw [hs]
    intro g hg
    rw [List.mem_append, List.mem_cons] at hg
    rcases hg with hg | rfl | hg
    · exact h g (by rw [hl]; simp [hg])
    · exact ⟨(h f (by rw [hl]; simp)).1, hx⟩
    · exact h g (by rw [hl]; simp [(List.mem_filter.1 hg).1])
  · unfold setF
    rw [if_neg hi]
    intro g hg
    rw [List.mem_append, List.mem_singleton] at hg
    rcases hg with hg | rfl
    · exact h g hg
    · exact ⟨hn, hx⟩
theorem flds_slice {w : World} {v : Value} {l : List (Bs × Bs)} (h : IsFlds w v l) : ∃ a c, v = .slice a l.length c := by
  obtain ⟨a, c, h, -⟩ := h; exact ⟨a, c, h⟩
theorem isFlds_grownF {w w0 w' : World} {v : Value} {m : List (Bs × Bs)} (hb : Below w0.heap.size w w') (h0 : IsFlds w0 v m) (h : IsFlds w v m) : IsFlds w' v m := by
  obtain ⟨a, c, rfl, hl, hc⟩ := h
  obtain ⟨a0, c0, e, -, hc0⟩ := h0
  injection e with e1 _ _
  subst e1
  refine ⟨a, c, rfl, hl, fun j t hj => ?_⟩
  obtain ⟨b, o, rfl, h1, h2⟩ := hc j t hj
  obtain ⟨b0, o0, e, g1, g2⟩ := hc0 j t hj
  injection e with e
  injection e with e1 e2
  subst e1 e2
  exact ⟨b, o, rfl, (hb.cell (p := ⟨b, o + j * 2, none⟩) (cell_lt (p := ⟨b, o + j * 2, none⟩) g1)).trans h1, (hb.cell (p := ⟨b, o + j * 2 + 1, none⟩) (cell_lt (p := ⟨b, o + j * 2 + 1, none⟩) g2)).trans h2⟩
def NlC (v : Value) : Prop := ∀ n c, v = .slice none n c → c = 0

set_option maxRecDepth 100000 in
set_option maxHeartbeats 16000000 in
theorem sets_walk (a1 : Option Addr) (c1 : Nat) (l A D : List (Bs × Bs)) (name value other : Bs) (eqn : Bool) (w : World)
    (k1 : (mkS name).size ≤ 60) (k2 : (mkS value).size ≤ 100) (k3 : (mkS other).size ≤ 60) (hl30 : l.length ≤ 30) (hD : D.length ≤ 30) (hAD : A.length = D.length + 1)
    (HL : Hid (Calls Tryd.prog 33 #[] w (Yes2 w)))
    (HB : Hid (∀ W, Below w.heap.size w W → Calls Tryd.prog 44 #[.slice a1 l.length c1] W fun e w' => e = .returned (.bool true) ∧ ∃ n, w' = W.drewN n))
    (H1 : Hid (IsFlds w (.slice a1 l.length c1) l))
    (OW : Hid (∀ W, Below w.heap.size w W → Calls Tryd.prog 53 #[.slice a1 l.length c1] W (OwnPost l W)))
    (ST : Hid (∀ W v, IsFlds W v l → Calls Tryd.prog 41 #[v, .string (mkS name), .string (mkS value)] W (OwnPost A W)))
    (DL : Hid (∀ W v, IsFlds W v l → NlC v → Calls Tryd.prog 42 #[v, .string (mkS name)] W (OwnPost D W)))
    (GA : Hid (∀ W v, IsFlds W v A → Calls Tryd.prog 36 #[v, .string (mkS name)] W fun e w' => e = .returned (.tuple #[.string (mkS value), .bool true]) ∧ Below W.heap.size W w'))
    (GD : Hid (∀ W v, IsFlds W v D → Calls Tryd.prog 36 #[v, .string (mkS name)] W fun e w' => e = .returned (.tuple #[.string ⟨#[]⟩, .bool false]) ∧ Below W.heap.size W w'))
    (AA : Hid (∀ W v, IsFlds W v A → Calls Tryd.prog 38 #[v, .string (mkS name)] W (ListPost W.heap.size [value] W)))
    (RS : Hid (∀ W, Calls Tryd.prog 58 #[.string (mkS name), .string (mkS other)] W fun e w' => e = .returned (.bool eqn) ∧ Below W.heap.size W w'))
    (LO : Hid (∀ W v, IsFlds W v l → Calls Tryd.prog 38 #[v, .string (mkS other)] W (ListPost W.heap.size (allF l other) W)))
    (AO : Hid (eqn = false → ∀ W v, IsFlds W v A → Calls Tryd.prog 38 #[v, .string (mkS other)] W (ListPost W.heap.size (allF l other) W)))
    (DO : Hid (eqn = false → ∀ W v, IsFlds W v D → Calls Tryd.prog 38 #[v, .string (mkS other)] W (ListPost W.heap.size (allF l other) W)))
    (DA : Hid (∀ W v, IsFlds W v A → NlC v → Calls Tryd.prog 42 #[v, .string (mkS name)] W (OwnPost D W)))
    (SD : Hid (∀ W v, IsFlds W v D → Calls Tryd.prog 41 #[v, .string (mkS name), .string (mkS value)] W (OwnPost (D ++ [(name, value)]) W)))
    (OD : Hid (∀ W v, IsFlds W v D → NlC v → Calls Tryd.prog 53 #[v] W (OwnPost D W)))
    (FS : Hid (∀ W v v' m, m = D ∨ m = D ++ [(name, value)] → IsFlds W v m → IsFlds W v' m → Calls Tryd.prog 40 #[v, v'] W fun e w' => e = .returned (.bool true) ∧ Below W.heap.size W w')) :
    Calls Tryd.prog 11 #[.slice a1 l.length c1, .string (mkS name), .string (mkS value), .string (mkS other)] w (Yes2 w) := by
  have m1 : ¬ (60 : Int) < ((mkS name).size : Int) := by omega
  have m2 : ¬ (100 : Int) < ((mkS value).size : Int) := by omega
  have m3 : ¬ (60 : Int) < ((mkS other).size : Int) := by omega
  have m4 : ((A.length : Int) != (D.length : Int) + 1) = false := by rw [hAD]; simp
  have m5 : IntKind.i64.wrap ((D.length : Int) + 1) = (D.length : Int) + 1 := IntWalk.i64_in _ (by omega)
  have hDl : D.length ≤ 1048576 := by omega
  have hPl : (allF l other).length ≤ 1099511627776 := by have := allF_len l other; omega
  clear k1 k2 k3 hl30 hD hAD
  go_enter Tryd.func11, Tryd.ntmps11
  go_wp2_with fail
  refine HL.out.mono ?_
  rintro e w1 ⟨rfl, hb⟩
  have HB1 := Lib.hid hb
  clear hb
  go_wp2_with fail
  refine (HB.out _ HB1.out).mono ?_
  rintro e w2 ⟨rfl, k, rfl⟩
  have HB2 := Lib.hid (below_some_draws HB1.out k)
  go_wp2_with fail
  refine (OW.out _ HB2.out).mono ?_
  rintro e w3 ⟨v3, rfl, ho, hb⟩
  have HB3 := Lib.hid (HB2.out.trans (hb.mono HB2.out.size))
  have HF3 := Lib.hid (isFlds_own ho)
  clear ho hb
  go_wp2_with fail
  refine (ST.out _ _ HF3.out).mono ?_
  rintro e w4 ⟨va, rfl, ho, hb⟩
  have HB4 := Lib.hid (HB3.out.trans (hb.mono HB3.out.size))
  have HA4 := Lib.hid (isFlds_own ho)
  have NA := Lib.hid (show NlC va from isFlds_nil_cap ho)
  obtain ⟨aa, ca, rfl⟩ := flds_slice HA4.out
  clear ho hb
  go_wp2_with fail
  refine (OW.out _ HB4.out).mono ?_
  rintro e w5 ⟨v5, rfl, ho, hb⟩
  have HB5 := Lib.hid (HB4.out.trans (hb.mono HB4.out.size))
  have HA5 := Lib.hid (isFlds_below HA4.out hb)
  have HF5 := Lib.hid (isFlds_own ho)
  have NF := Lib.hid (show NlC v5 from isFlds_nil_cap ho)
  clear ho hb
  go_wp2_with fail
  refine (DL.out _ _ HF5.out NF.out).mono ?_
  rintro e w6 ⟨vd, rfl, ho, hb⟩
  have HB6 := Lib.hid (HB5.out.trans (hb.mono HB5.out.size))
  have HA6 := Lib.hid (isFlds_below HA5.out hb)
  have HD6 := Lib.hid (isFlds_own ho)
  have ND := Lib.hid (show NlC vd from isFlds_nil_cap ho)
  obtain ⟨ad, cd, rfl⟩ := flds_slice HD6.out
  clear ho hb
  go_wp2_with fail
  refine (GA.out _ _ HA6.out).mono ?_
  rintro e w7 ⟨rfl, hb⟩
  have HB7 := Lib.hid (HB6.out.trans (hb.mono HB6.out.size))
  have HA7 := Lib.hid (isFlds_below HA6.out hb)
  have HD7 := Lib.hid (isFlds_below HD6.out hb)
  clear hb
  go_wp2_with fail
  refine (GD.out _ _ HD7.out).mono ?_
  rintro e w8 ⟨rfl, hb⟩
  have HB8 := Lib.hid (HB7.out.trans (hb.mono HB7.out.size))
  have HA8 := Lib.hid (isFlds_below HA7.out hb)
  have HD8 := Lib.hid (isFlds_below HD7.out hb)
  clear hb
  go_wp2_with fail
  refine (AA.out _ _ HA8.out).mono ?_
  rintro e w9 ⟨v9, rfl, ho, hb⟩
  have HB9 := Lib.hid (HB8.out.trans (hb.mono HB8.out.size))
  have HA9 := Lib.hid (isFlds_below HA8.out hb)
  have HD9 := Lib.hid (isFlds_below HD8.out hb)
  obtain ⟨a9, c9, rfl⟩ : ∃ a c, v9 = .slice a 1 c := by
    obtain ⟨a, c, h, -⟩ := isStrs_own ho
    exact ⟨a, c, h⟩
  clear ho hb
  go_wp2_with fail
  refine (RS.out _).mono ?_
  rintro e w10 ⟨rfl, hb⟩
  have HB10 := Lib.hid (HB9.out.trans (hb.mono HB9.out.size))
  have HA10 := Lib.hid (isFlds_below HA9.out hb)
  have HD10 := Lib.hid (isFlds_below HD9.out hb)
  clear hb
  cases eqn
  · go_wp2_with fail
    refine (AO.out trivial _ _ HA10.out).mono ?_
    rintro e x1 ⟨s1, rfl, ho, hb⟩
    have HBa := Lib.hid (HB10.out.trans (hb.mono HB10.out.size))
    have HAa := Lib.hid (isFlds_below HA10.out hb)
    have HDa := Lib.hid (isFlds_below HD10.out hb)
    have HSa := Lib.hid ho
    clear ho hb
    go_wp2_with fail
    refine (LO.out _ _ (isFlds_below H1.out HBa.out)).mono ?_
    rintro e x2 ⟨s2, rfl, ho, hb⟩
    have HBb := Lib.hid (HBa.out.trans (hb.mono HBa.out.size))
    have HAb := Lib.hid (isFlds_below HAa.out hb)
    have HDb := Lib.hid (isFlds_below HDa.out hb)
    have HSm := Lib.hid (same_any s1 s2 _ _ x2 (isStrs_own (own_keep HSa.out hb)) (isStrs_own ho) hPl hPl)
    simp only [decide_true] at HSm
    clear ho hb
    go_wp2_with fail
    refine HSm.out.mono ?_
    rintro e x3 ⟨rfl, k4, rfl⟩
    have HBc := Lib.hid (below_some_draws HBb.out k4)
    have HAc := Lib.hid (isFlds_below HAb.out (below_some_draws (Below.refl _ x2) k4))
    have HDc := Lib.hid (isFlds_below HDb.out (below_some_draws (Below.refl _ x2) k4))
    go_wp2_with fail
    refine (DO.out trivial _ _ HDc.out).mono ?_
    rintro e x4 ⟨s4, rfl, ho, hb⟩
    have HBd := Lib.hid (HBc.out.trans (hb.mono HBc.out.size))
    have HAd := Lib.hid (isFlds_below HAc.out hb)
    have HDd := Lib.hid (isFlds_below HDc.out hb)
    have HSd := Lib.hid ho
    clear ho hb
    go_wp2_with fail
    refine (LO.out _ _ (isFlds_below H1.out HBd.out)).mono ?_
    rintro e x5 ⟨s5, rfl, ho, hb⟩
    have HBe := Lib.hid (HBd.out.trans (hb.mono HBd.out.size))
    have HAe := Lib.hid (isFlds_below HAd.out hb)
    have HDe := Lib.hid (isFlds_below HDd.out hb)
    have HSn := Lib.hid (same_any s4 s5 _ _ x5 (isStrs_own (own_keep HSd.out hb)) (isStrs_own ho) hPl hPl)
    simp only [decide_true] at HSn
    clear ho hb
    go_wp2_with fail
    refine HSn.out.mono ?_
    rintro e x6 ⟨rfl, k5, rfl⟩
    have HB12 := Lib.hid (below_some_draws HBe.out k5)
    have HA12 := Lib.hid (isFlds_below HAe.out (below_some_draws (Below.refl _ x5) k5))
    have HD12 := Lib.hid (isFlds_below HDe.out (below_some_draws (Below.refl _ x5) k5))
    go_wp2_with fail
    refine (DA.out _ _ HA12.out NA.out).mono ?_
    rintro e w13 ⟨v13, rfl, ho, hb⟩
    have HB13 := Lib.hid (HB12.out.trans (hb.mono HB12.out.size))
    have HD13 := Lib.hid (isFlds_below HD12.out hb)
    have HX13 := Lib.hid (isFlds_own ho)
    clear ho hb
    go_wp2_with fail
    refine (FS.out _ _ _ D (.inl rfl) HX13.out HD13.out).mono ?_
    rintro e w14 ⟨rfl, hb⟩
    have HB14 := Lib.hid (HB13.out.trans (hb.mono HB13.out.size))
    have HD14 := Lib.hid (isFlds_below HD13.out hb)
    clear hb
    go_wp2_with fail
    refine (SD.out _ _ HD14.out).mono ?_
    rintro e w15 ⟨v15, rfl, ho, hb⟩
    have HB15 := Lib.hid (HB14.out.trans (hb.mono HB14.out.size))
    have HD15 := Lib.hid (isFlds_below HD14.out hb)
    have HX15 := Lib.hid (isFlds_own ho)
    clear ho hb
    go_wp2_with fail
    refine (OD.out _ _ HD15.out ND.out).mono ?_
    rintro e w16 ⟨v16, rfl, ho, hb⟩
    have HB16 := HB15.out.trans (hb.mono HB15.out.size)
    have hX16 := isFlds_below HX15.out hb
    have hbal : Below w16.heap.size w16 (w16.alloc (Obj.cells #[.string (mkS name), .string (mkS value)] 51)) := (Below.refl _ _).alloc (Nat.le_refl _) _
    have HO17 := Lib.hid (own_keep2f ho hbal)
    have HX17 := Lib.hid (isFlds_below hX16 hbal)
    have HF17 := Lib.hid (isFlds_lit w16 name value)
    have HB17 := Lib.hid (HB16.trans (hbal.mono HB16.size))
    have hs17 : w15.heap.size ≤ (w16.alloc (Obj.cells #[.string (mkS name), .string (mkS value)] 51)).heap.size := by have := hb.size; simp; omega
    clear ho hb hbal hX16 HB16
    go_wp2_with (at_builtin; refine joinF_guarded (by rfl) _ _ rfl w15.heap.size _ _ D [(name, value)] rfl rfl HO17.out HF17.out (fun _ _ h => by injection h with h1; cases h1) hs17 hDl (by simp) ?_)
    intro v18 w18 ho18 hg18
    have hb18 := below_of_grownF hg18 HO17.out hs17
    have HB18 := Lib.hid (HB17.out.trans (below_of_grownF hg18 (own_base HO17.out HB15.out.size) HB17.out.size))
    have HX18 := Lib.hid (isFlds_grownF hb18 HX15.out HX17.out)
    rw [show D.length + 1 = (D ++ [(name, value)]).length by simp] at ho18
    have HY18 := Lib.hid (isFlds_own ho18)
    clear ho18 hg18 hb18
    go_wp2_with fail
    refine (FS.out _ _ _ (D ++ [(name, value)]) (.inr rfl) HX18.out HY18.out).mono ?_
    rintro e w19 ⟨rfl, hb⟩
    have HB19 := Lib.hid (HB18.out.trans (hb.mono HB18.out.size))
    clear hb
    go_wp2_with fail
    go_ret
    exact ⟨rfl, HB19.out⟩
  · have HB12 := HB10
    have HA12 := HA10
    have HD12 := HD10
    go_wp2_with fail
    refine (DA.out _ _ HA12.out NA.out).mono ?_
    rintro e w13 ⟨v13, rfl, ho, hb⟩
    have HB13 := Lib.hid (HB12.out.trans (hb.mono HB12.out.size))
    have HD13 := Lib.hid (isFlds_below HD12.out hb)
    have HX13 := Lib.hid (isFlds_own ho)
    clear ho hb
    go_wp2_with fail
    refine (FS.out _ _ _ D (.inl rfl) HX13.out HD13.out).mono ?_
    rintro e w14 ⟨rfl, hb⟩
    have HB14 := Lib.hid (HB13.out.trans (hb.mono HB13.out.size))
    have HD14 := Lib.hid (isFlds_below HD13.out hb)
    clear hb
    go_wp2_with fail
    refine (SD.out _ _ HD14.out).mono ?_
    rintro e w15 ⟨v15, rfl, ho, hb⟩
    have HB15 := Lib.hid (HB14.out.trans (hb.mono HB14.out.size))
    have HD15 := Lib.hid (isFlds_below HD14.out hb)
    have HX15 := Lib.hid (isFlds_own ho)
    clear ho hb
    go_wp2_with fail
    refine (OD.out _ _ HD15.out ND.out).mono ?_
    rintro e w16 ⟨v16, rfl, ho, hb⟩
    have HB16 := HB15.out.trans (hb.mono HB15.out.size)
    have hX16 := isFlds_below HX15.out hb
    have hbal : Below w16.heap.size w16 (w16.alloc (Obj.cells #[.string (mkS name), .string (mkS value)] 51)) := (Below.refl _ _).alloc (Nat.le_refl _) _
    have HO17 := Lib.hid (own_keep2f ho hbal)
    have HX17 := Lib.hid (isFlds_below hX16 hbal)
    have HF17 := Lib.hid (isFlds_lit w16 name value)
    have HB17 := Lib.hid (HB16.trans (hbal.mono HB16.size))
    have hs17 : w15.heap.size ≤ (w16.alloc (Obj.cells #[.string (mkS name), .string (mkS value)] 51)).heap.size := by have := hb.size; simp; omega
    clear ho hb hbal hX16 HB16
    go_wp2_with (at_builtin; refine joinF_guarded (by rfl) _ _ rfl w15.heap.size _ _ D [(name, value)] rfl rfl HO17.out HF17.out (fun _ _ h => by injection h with h1; cases h1) hs17 hDl (by simp) ?_)
    intro v18 w18 ho18 hg18
    have hb18 := below_of_grownF hg18 HO17.out hs17
    have HB18 := Lib.hid (HB17.out.trans (below_of_grownF hg18 (own_base HO17.out HB15.out.size) HB17.out.size))
    have HX18 := Lib.hid (isFlds_grownF hb18 HX15.out HX17.out)
    rw [show D.length + 1 = (D ++ [(name, value)]).length by simp] at ho18
    have HY18 := Lib.hid (isFlds_own ho18)
    clear ho18 hg18 hb18
    go_wp2_with fail
    refine (FS.out _ _ _ (D ++ [(name, value)]) (.inr rfl) HX18.out HY18.out).mono ?_
    rintro e w19 ⟨rfl, hb⟩
    have HB19 := Lib.hid (HB18.out.trans (hb.mono HB18.out.size))
    clear hb
    go_wp2_with fail
    go_ret
    exact ⟨rfl, HB19.out⟩

set_option maxRecDepth 100000 in
theorem sets_main (v : Value) (l : List (Bs × Bs)) (name value other : Bs) (w : World) (hs : IsFlds w v l) (hnl : NlC v) (z : ∀ f ∈ l, f.1.length ≤ 140737488351232 ∧ f.2.length ≤ 140737488351232) (hl : l.length ≤ 140737488351232)
    (hb : lightF l = true) (k1 : name.length ≤ 60) (k2 : value.length ≤ 100) (k3 : other.length ≤ 60) :
    Calls Tryd.prog 11 #[v, .string (mkS name), .string (mkS value), .string (mkS other)] w (Yes2 w) := by
  obtain ⟨hl30, hs1⟩ := lightF_parts l hb
  have hsm : Sm l := fun f hf => by have := sumF_mem l f hf; omega
  have hln : (delF name l).length ≤ 30 := Nat.le_trans (delF_len name l) hl30
  have hsl := set_len name value l
  have HB := fun (W : World) (h : Below w.heap.size w W) => light02_any v l W (isFlds_below hs h) z hl
  rw [hb] at HB
  have OW := fun (W : World) (h : Below w.heap.size w W) => own_any v l W (isFlds_below hs h) hnl (by omega)
  have hA : Sm (setF name value l) := sm_set hsm name value (by omega) (by omega)
  have hD : Sm (delF name l) := sm_del hsm name
  have GA := fun (W : World) (v' : Value) (h : IsFlds W v' (setF name value l)) => fget_one v' _ name W h hA (by omega) (by omega) (by rw [set_all]; simp)
  have GD := fun (W : World) (v' : Value) (h : IsFlds W v' (delF name l)) => fget_one v' _ name W h hD (by omega) (by omega) (by rw [allF_del]; simp)
  have AA := fun (W : World) (v' : Value) (h : IsFlds W v' (setF name value l)) => fall_any v' _ name W h hA (by omega) (by omega)
  have DA := fun (W : World) (v' : Value) (h : IsFlds W v' (setF name value l)) (hn : NlC v') => fdel_any v' _ name W h hn hA (by omega) (by omega)
  have SD := fun (W : World) (v' : Value) (h : IsFlds W v' (delF name l)) => fset_any v' _ name value W h hD (by omega) (by omega) (by omega)
  have RS := fun W : World => rsame_any (mkS name) (mkS other) W (by rw [size_mkS]; omega) (by rw [size_mkS]; omega)
  rw [set_all] at GA AA
  rw [allF_del] at GD
  rw [set_del] at DA
  rw [del_set] at SD
  rw [bs_mkS, bs_mkS] at RS
  obtain ⟨a1, c1, rfl⟩ := flds_slice hs
  refine sets_walk a1 c1 l (setF name value l) (delF name l) name value other (decide (lowL name = lowL other)) w (by rw [size_mkS]; exact k1) (by rw [size_mkS]; exact k2) (by rw [size_mkS]; exact k3) hl30 hln hsl
    (lives02_any w) HB hs OW ?_ ?_ GA GD AA RS ?_ ?_ ?_ DA SD ?_ ?_
  · exact fun W v' h => fset_any v' l name value W h hsm (by omega) (by omega) (by omega)
  · exact fun W v' h hn => fdel_any v' l name W h hn hsm (by omega) (by omega)
  · exact fun W v' h => fall_any v' l other W h hsm (by omega) (by omega)
  · intro he W v' h
    have := fall_any v' _ other W h hA (by omega) (by omega)
    rwa [set_other (by simpa using he)] at this
  · intro he W v' h
    have := fall_any v' _ other W h hD (by omega) (by omega)
    rwa [allF_del_other (by simpa using he)] at this
  · exact fun W v' h hn => own_any v' _ W h hn (by omega)
  · intro W v1 v2 m hm h1 h2
    have hmz : Sm m ∧ m.length ≤ 31 := by
      rcases hm with rfl | rfl
      · exact ⟨hD, by omega⟩
      · refine ⟨fun f hf => ?_, by simp; omega⟩
        rw [List.mem_append, List.mem_singleton] at hf
        rcases hf with hf | rfl
        · exact hD f hf
        · exact ⟨show name.length ≤ _ by omega, show value.length ≤ _ by omega⟩
    have := fsame_any v1 v2 m m W h1 h2 (fun f hf => (hmz.1 f (by rcases hf with h | h <;> exact h)).1) (by omega) (by omega)
    rwa [sameFs_refl] at this

/-- The law FieldSets, whatever the fields and the texts. -/
theorem sets_any (v : Value) (l : List (Bs × Bs)) (name value other : ByteArray) (w : World) (hs : IsFlds w v l) (hnl : NlC v) (z : ∀ f ∈ l, f.1.length ≤ 140737488351232 ∧ f.2.length ≤ 140737488351232) (hl : l.length ≤ 140737488351232) :
    Calls Tryd.prog 11 #[v, .string name, .string value, .string other] w (Yes2 w) := by
  cases hb : lightF l
  · exact sets_big v l name value other w hs z hl (.inl hb)
  · by_cases k1 : name.size ≤ 60
    · by_cases k2 : value.size ≤ 100
      · by_cases k3 : other.size ≤ 60
        · have := sets_main v l (bs name) (bs value) (bs other) w hs hnl z hl hb (by rw [length_bs]; exact k1) (by rw [length_bs]; exact k2) (by rw [length_bs]; exact k3)
          rwa [mkS_bs, mkS_bs, mkS_bs] at this
        · exact sets_big v l name value other w hs z hl (.inr ⟨hb, .inr ⟨k1, .inr ⟨k2, by omega⟩⟩⟩)
      · exact sets_big v l name value other w hs z hl (.inr ⟨hb, .inr ⟨k1, .inl (by omega)⟩⟩)
    · exact sets_big v l name value other w hs z hl (.inr ⟨hb, .inl (by omega)⟩)
end Tk
end Go.Proofs.YtogdmhgblceddaaDoor
