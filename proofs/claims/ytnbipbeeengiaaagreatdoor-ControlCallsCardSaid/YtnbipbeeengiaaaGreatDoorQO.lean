/- CtL CtM CtN, put together. -/
import Derived.Test.YtnbipbeeengiaaaGreatDoorQN
import Derived.Test.YtnbipbeeengiaaaGreatDoorQG
import Derived.RangeFuncBox
import Derived.Maps.OwnIn
import Derived.BigQuiet
import Derived.ChangeKeysEq
namespace Go.Proofs.YtnbipbeeengiaaaGreatDoor
open Go.RowKit
namespace Tk

attribute [local go_sem] Oper.semAt_some

def pairE (d : Bs × Bs) : Array Value := #[.string (mkS d.1), .string (mkS d.2)]
def pairsL (L : List Bs) : List (Bs × Bs) := (dirsL L).map fun d => (d.1, d.2.1)

set_option maxHeartbeats 8000000 in
set_option maxRecDepth 100000 in
theorem each1_hands (g : Nat) (ad : Option Addr) (c : Nat) (L : List Bs) (hl : L.length ≤ 1048576) (hz : ∀ x ∈ L, x.length ≤ 1000000) :
    HandsM Tryz.prog 91 #[.pointer (some ⟨g, 0, none⟩)] pairE (pairsL L) (ListAt g ad c L) := by
  intro l J M W hK hJ hS hY h0
  obtain ⟨hbx, hst⟩ := hS _ _ _ h0
  have HK := Lib.hid hK
  have HJ := Lib.hid hJ
  have HS := Lib.hid hS
  have HY := Lib.hid hY
  have H0 := Lib.hid h0
  have HSt := Lib.hid hst
  clear hK hJ hS hY h0 hst
  have HDir : Hid (∀ W, CallsIn Fence.wide 4 Tryz.prog 67 #[.slice ad L.length c] W fun e w' => e = .returned (.func (.func 112) #[] #[.pointer (some ⟨W.heap.size, 0, none⟩)]) ∧ w' = W.alloc (.cells #[.slice ad L.length c] 26)) := fun W => callsIn_wide.2 (directives_any ad L.length c W)
  refine (callsIn_wide (n := 5)).1 ?_
  refine callsIn_of_wp_marks Tryz.func91 rfl trivial ?_ rfl
  simp only [Tryz.ntmps91, List.size_toArray, List.length_cons, List.length_nil, Nat.reduceAdd, Nat.reduceSub, Array.replicate_succ, Array.replicate_zero, List.push_toArray, List.append_toArray, List.nil_append, List.cons_append]
  have hgz : g < W.heap.size := cell_in (p := ⟨g, 0, none⟩) hbx
  have hb1 := below_allocC W (.cells #[.func (.yield l) #[] #[]] 80)
  have hbx1 : (W.alloc (.cells #[.func (.yield l) #[] #[]] 80)).cell? ⟨g, 0, none⟩ = some (.slice ad L.length c) := (hb1.cell (p := ⟨g, 0, none⟩) hgz).trans hbx
  gi_wp2_with fail
  have hF1 := Bx.new W 80 #[.func (.yield l) #[] #[]]
  refine ⟨trivial, (HDir.out _).mono ?_⟩
  rintro e w5 ⟨rfl, rfl⟩
  have hz5 := World.size_alloc W (.cells #[.func (.yield l) #[] #[]] 80)
  generalize W.alloc (Obj.cells #[.func (.yield l) #[] #[]] 80) = W4 at *
  have hb5 := below_allocC W4 (.cells #[.slice ad L.length c] 26)
  have hB5 := Bx.new W4 26 #[.slice ad L.length c]
  have hF5 := hF1.later hb5
  have hW5 := hb1.trans (hb5.mono hb1.size)
  have HSt5 := Lib.hid (isStrsC_below HSt.out hW5)
  have HJ5 := Lib.hid (HJ.out _ _ _ _ H0.out (Mine.below hW5))
  have hM5 := HK.out _ _ _ H0.out
  clear hb1 hb5 hF1
  rw [hz5] at hB5
  generalize W4.alloc (Obj.cells #[.slice ad L.length c] 26) = W5 at *
  have hgBz : W.heap.size + 1 < W5.heap.size := hB5.lt
  have hgFz : W.heap.size < W5.heap.size := hF5.lt
  gi_wp2_with fail
  have hgFB : W.heap.size < W.heap.size + 1 := Nat.lt_succ_self _
  generalize W.heap.size + 1 = gB at *
  have HH := dirs1_hands gB ad c L hl hz
  refine range_mx (gf := 112) (lb := #[.pointer (some ⟨gB, 0, none⟩)]) rfl (enters_of Tryz.func112 (by kernel_rfl) rfl) (fun _ => rfl) HH
    (fun pre N W' => J (pre.map fun d => (d.1, d.2.1)) N W' ∧ Bx W' W.heap.size 80 #[.func (.yield l) #[] #[]] ∧ Bx W' gB 26 #[.slice ad L.length c] ∧ IsStrs W' (.slice ad L.length c) L ∧ ¬ N W.heap.size ∧ ¬ N gB)
    ?known ?abides ?reads M ⟨HJ5.out, hF5, hB5, HSt5.out, fun h => absurd (hM5 _ h) (by omega), fun h => absurd (hM5 _ h) (by omega)⟩
    (fun x a' z W' => a' = { tmps := #[.func (.yield l) #[] #[], .pointer (some ⟨g, 0, none⟩), .pointer (some ⟨W.heap.size, 0, none⟩), .string (mkS x.1), .pointer (some ⟨z, 0, none⟩), .slice ad L.length c, .func (.func 112) #[] #[.pointer (some ⟨gB, 0, none⟩)], .string (mkS x.1), argV x.2.1 x.2.2, undef, undef, undef, undef, undef, undef], defers := [] } ∧ Bx W' z 113 #[.string (mkS x.2.1), .bool x.2.2]) ?stays ?assign ?body ?done
  case known =>
    rintro s N W' ⟨h, -⟩ k hk
    exact HK.out _ _ _ h k hk
  case abides =>
    rintro s N W1 W2 ⟨h1, h2, h3, h4, n1, n2⟩ hm
    refine ⟨HJ.out _ _ _ _ h1 (hm.mono (by omega) (fun _ h => h)), h2.same (hm.same _ h2.lt (.inl hgFz)), h3.same (hm.same _ h3.lt (.inl hgBz)), ?_, n1, n2⟩
    exact (HS.out _ _ _ (HJ.out _ _ _ _ h1 (hm.mono (by omega) (fun _ h => h)))).2
  case reads =>
    rintro s N W' ⟨-, -, h3, h4, -⟩
    exact ⟨h3.cell 0 _ rfl, h4⟩
  case stays =>
    rintro x a' z W1 W2 ⟨h1, h2⟩ hk
    exact ⟨h1, h2.same (hk z (Nat.le_refl _) h2.lt)⟩
  case assign =>
    intro lp m x W1 K hK
    obtain ⟨n, t, h⟩ := x
    unfold dirE argV at *
    gi_wp2
    exact hK _ _ (below_allocC _ _) ⟨rfl, Bx.new _ _ _⟩
  case body =>
    rintro lp m pre x N a' z W1 ⟨h1, h2, h3, h4, n1, n2⟩ hNz hzW ⟨rfl, hA⟩ hpre
    have hp2 : (pre.map fun d => (d.1, d.2.1)) ++ [(x.1, x.2.1)] <+: pairsL L := by
      have := hpre.map (fun d : Dir => (d.1, d.2.1))
      simpa [pairsL] using this
    have hy0 := HY.out _ _ N W1 h1 hp2
    obtain ⟨n, t, h⟩ := x
    simp only at hA hy0
    have ha0 := hA.cell 0 _ rfl
    have hf0 := h2.cell 0 _ rfl
    have H2 := Lib.hid h2
    have H3 := Lib.hid h3
    have hl2 := h2.lt
    have hl3 := h3.lt
    obtain ⟨fn, tm, asg, bd, hy, hR⟩ := hy0.inRound (m := m - 1) (l' := lp)
    unfold pairE at hy
    simp only at hy
    clear hA h2 h3 h4 hpre hp2 hNz HH HJ5 hF5 hB5
    gi_wp2_with fail
    refine ⟨fun h => absurd h (by decide), hR.mono ?_⟩
    rintro e W2 ⟨rfl, N2, hJ2, hT⟩
    have HJ2 := Lib.hid hJ2
    have HT := Lib.hid hT
    have hsz2 := hT.size
    clear hJ2 hT hR hy
    gi_wp2_with fail
    have hJ3 := HJ2.out
    refine ⟨N2, ⟨by simpa using hJ3, H2.out.same (HT.out.same _ hl2 n1), H3.out.same (HT.out.same _ hl3 n2), (HS.out _ _ _ hJ3).2, fun h => (HT.out.more _ h).elim n1 (by omega), fun h => (HT.out.more _ h).elim n2 (by omega)⟩, HT.out⟩
  case done =>
    rintro D N W1 hD hND ⟨h1, h2, h3, h4, n1, n2⟩ hd
    have HD := Lib.hid hd
    have H1 := Lib.hid h1
    clear h1 h2 h3 h4 n1 n2 hd
    gi_wp2_with fail
    refine ⟨by simp, .inl ⟨_, _, rfl, run_takeDeferred HD.out, ?_⟩⟩
    refine ⟨.tuple #[], ?_, ⟨_, rfl⟩, N, HJ.out _ _ _ _ H1.out (Mine.putObj _ (by omega) hND)⟩
    simp [results, Tryz.results91, go_sem]
end Tk
end Go.Proofs.YtnbipbeeengiaaaGreatDoor
namespace Go.Proofs.YtnbipbeeengiaaaGreatDoor
open Go.RowKit
namespace Tk

attribute [local go_sem] Oper.semAt_some

def pcells (l : List (Bs × Bs)) : List Value := l.flatMap fun f => [.string (mkS f.1), .string (mkS f.2)]
theorem pcells_app (a b : List (Bs × Bs)) : pcells (a ++ b) = pcells a ++ pcells b := by simp [pcells]
theorem pcells_get : ∀ (l : List (Bs × Bs)) (j : Nat) (f : Bs × Bs), l[j]? = some f → (pcells l)[j * 2]? = some (.string (mkS f.1)) ∧ (pcells l)[j * 2 + 1]? = some (.string (mkS f.2))
  | [], j, f, h => by simp at h
  | g :: t, 0, f, h => by
    simp at h; subst h
    exact ⟨by simp [pcells], by simp [pcells]⟩
  | g :: t, j + 1, f, h => by
    have := pcells_get t j f (by simpa using h)
    unfold pcells at *
    rw [List.flatMap_cons, show (j + 1) * 2 = j * 2 + 2 by omega]
    constructor
    · simpa using this.1
    · simpa using this.2
/-- a list of pairs lies at v -/
def IsPrs (w : World) (v : Value) (l : List (Bs × Bs)) : Prop :=
  ∃ (a : Option Addr) (c : Nat), v = .slice a l.length c ∧ l.length ≤ c ∧ ∀ j f, l[j]? = some f → ∃ b o, a = some ⟨b, o, none⟩ ∧ w.cell? ⟨b, o + j * 2, none⟩ = some (.string (mkS f.1)) ∧ w.cell? ⟨b, o + j * 2 + 1, none⟩ = some (.string (mkS f.2))
theorem isPrs_own {w : World} {base : Nat} {v : Value} {l : List (Bs × Bs)} (h : w.ownsRow base 72 2 v l.length (pcells l)) : IsPrs w v l := by
  rcases h.2 with ⟨hv, hn⟩ | ⟨g, cap, cur, hv, hb, hg, hcap, -⟩
  · exact ⟨none, 0, by rw [hv, hn], by omega, fun j t hj => by simp [List.eq_nil_of_length_eq_zero hn] at hj⟩
  · refine ⟨some ⟨g, 0, none⟩, cap, hv, hcap, fun j f hj => ⟨g, 0, rfl, ?_, ?_⟩⟩
    · have := h.cells (g := g) (by rw [hv]; rfl) (j * 2) (.string (mkS f.1)) (pcells_get l j f hj).1
      rw [Go.WideShapes.add_plain] at this
      exact this
    · have := h.cells (g := g) (by rw [hv]; rfl) (j * 2 + 1) (.string (mkS f.2)) (pcells_get l j f hj).2
      rw [Go.WideShapes.add_plain, ← Nat.add_assoc] at this
      exact this
theorem isPrs_below {w w' : World} {v : Value} {l : List (Bs × Bs)} (h : IsPrs w v l) (hb : Below w.heap.size w w') : IsPrs w' v l := by
  obtain ⟨a, c, rfl, hc, h⟩ := h
  refine ⟨a, c, rfl, hc, fun j f hj => ?_⟩
  obtain ⟨b, o, rfl, h1, h2⟩ := h j f hj
  exact ⟨b, o, rfl, (hb.cell (p := ⟨b, o + j * 2, none⟩) (cell_in (p := ⟨b, o + j * 2, none⟩) h1)).trans h1, (hb.cell (p := ⟨b, o + j * 2 + 1, none⟩) (cell_in (p := ⟨b, o + j * 2 + 1, none⟩) h2)).trans h2⟩
theorem own_sameC {W W' : World} {base n size : Nat} {e : TypeId} {v : Value} {xs : List Value} (h : W.ownsRow base e size v n xs) (hk : ∀ k, v.ownBlock = some k → W'.heap[k]? = W.heap[k]?) : W'.ownsRow base e size v n xs := by
  refine ⟨h.1, ?_⟩
  rcases h.2 with h2 | ⟨g, cap, cur, hv, hb, hg, h3⟩
  · exact .inl h2
  · exact .inr ⟨g, cap, cur, hv, hb, (hk g (by rw [hv]; rfl)).trans hg, h3⟩
theorem own_baseC {w : World} {B B2 n size : Nat} {v : Value} {xs : List Value} {e : TypeId} (h : w.ownsRow B e size v n xs) (hb : B2 ≤ B) : w.ownsRow B2 e size v n xs := by
  refine ⟨h.1, ?_⟩
  rcases h.2 with h2 | ⟨g, cap, cur, hv, hge, h2⟩
  · exact .inl h2
  · exact .inr ⟨g, cap, cur, hv, Nat.le_trans hb hge, h2⟩
theorem prInfo : (Tryz.prog.info? 72).map (fun i => (i.zero, i.size, i.bytes)) = some (some (.agg #[.string .empty, .string .empty]), 2, 32) := by kernel_rfl
theorem cell_two_newC (w : World) (x y : Value) (t : TypeId) : ∀ j u, [x, y][j]? = some u → (w.alloc (.cells #[x, y] t)).cell? ((⟨w.heap.size, 0, none⟩ : Addr).add j) = some u := by
  intro j u hj
  match j, hj with
  | 0, hj => simp at hj; subst hj; simp [Addr.add]
  | 1, hj => simp at hj; subst hj; simp [Addr.add]
theorem seq2_notnil (x : Value) (w : World) : Sem.run Tryz.prog (binOp BinOp.eql 102 (.func (.func 91) #[] #[x]) .nilFunc) w = .ok (.bool false) w := by kernel_rfl

/-- what law10.each returns -/
def EachedPost (L : List Bs) (w : World) (e : Ending) (w' : World) : Prop :=
  ∃ v', e = .returned (.tuple #[v', .bool true]) ∧ w'.ownsRow w.heap.size 72 2 v' (pairsL L).length (pcells (pairsL L)) ∧ Below w.heap.size w w'

set_option maxHeartbeats 8000000 in
set_option maxRecDepth 100000 in
theorem leach_any (v : Value) (L : List Bs) (w : World) (hs : IsStrs w v L) (hz : ∀ x ∈ L, x.length ≤ 1000000) (hl : L.length ≤ 1048576) (hn : (pairsL L).length ≤ 700) :
    Calls Tryz.prog 31 #[v] w (EachedPost L w) := by
  obtain ⟨i0, hi0, hz0, hz1, hz2⟩ := info_parts prInfo
  have HS := Lib.hid hs
  have HZ := Lib.hid hz
  obtain ⟨a, cap, rfl⟩ : ∃ a cap, v = .slice a L.length cap := by obtain ⟨a, c, h, -⟩ := hs; exact ⟨a, c, h⟩
  clear hs hz
  have HN : Hid (∀ W, Below w.heap.size w W → CallsIn Fence.wide 4 Tryz.prog 62 #[.slice a L.length cap] W (EachPost L W)) := fun W hb => callsIn_wide.2 (ceach_any _ L W (isStrsC_below HS.out hb) HZ.out hl)
  unfold EachPost at HN
  refine (callsIn_wide (n := 5)).1 ?_
  refine callsIn_of_wp_marks Tryz.func31 rfl trivial ?_ rfl
  simp only [Tryz.ntmps31, List.size_toArray, List.length_cons, List.length_nil, Nat.reduceAdd, Nat.reduceSub, Array.replicate_succ, Array.replicate_zero, List.push_toArray, List.append_toArray, List.nil_append, List.cons_append]
  gi_wp2_with fail
  have bR := (Boxed.new w 65 (.slice none 0 0)).alloc (Obj.cells #[.bool false] 4)
  have bK := Boxed.new (w.alloc (Obj.cells #[.slice none 0 0] 65)) 4 (.bool false)
  simp only [World.size_alloc] at bK
  have hb3 : Below w.heap.size w ((w.alloc (Obj.cells #[.slice none 0 0] 65)).alloc (Obj.cells #[.bool false] 4)) := ((Below.refl _ _).alloc (Nat.le_refl _) _).alloc (by simp) _
  generalize (w.alloc (Obj.cells #[.slice none 0 0] 65)).alloc (Obj.cells #[.bool false] 4) = W3 at *
  refine ⟨trivial, (HN.out W3 hb3).mono ?_⟩
  rintro e w1 ⟨g, ad, c, rfl, hc, hst, hb⟩
  have BR := Lib.hid ((hb.block _ bR.lt).trans bR)
  have BK := Lib.hid ((hb.block _ bK.lt).trans bK)
  have HB1 := Lib.hid (hb3.trans (hb.mono hb3.size))
  have HC := Lib.hid hc
  have HT := Lib.hid hst
  have l1 : w.heap.size < w1.heap.size := Nat.lt_of_lt_of_le bR.lt hb.size
  have l2 : w.heap.size + 1 < w1.heap.size := Nat.lt_of_lt_of_le bK.lt hb.size
  clear bR bK hb3 hb hc hst
  have hnn := seq2_notnil (.pointer (some ⟨g, 0, none⟩))
  gi_wp2_with fail
  have hb0 : Below w1.heap.size w1 (w1.alloc (Obj.cells #[.slice none 0 0] 65)) := (Below.refl _ _).alloc (Nat.le_refl _) _
  have bO := Boxed.new w1 65 (.slice none 0 0)
  have HH := each1_hands g ad c L hl HZ.out
  have hsz2 := World.size_alloc w1 (Obj.cells #[.slice none 0 0] 65)
  generalize w1.alloc (Obj.cells #[.slice none 0 0] 65) = W2 at *
  refine range_m (gf := 91) (lb := #[.pointer (some ⟨g, 0, none⟩)]) rfl (enters_of Tryz.func91 (by kernel_rfl) rfl) (fun _ => rfl) HH
    (fun pre M W => Below w1.heap.size w1 W ∧ ∃ v, Boxed W w1.heap.size 65 v ∧ W.ownsRow w1.heap.size 72 2 v pre.length (pcells pre) ∧ ∀ k, M k ↔ (k = w1.heap.size ∨ v.ownBlock = some k))
    ?known ?abides ?reads (fun k => k = w1.heap.size) ⟨hb0, _, bO, World.ownsRow_nil _ _ _ _, fun k => by simp [Value.ownBlock]⟩
    (fun x => { tmps := #[.slice a L.length cap, undef, .pointer (some ⟨w.heap.size, 0, none⟩), .pointer (some ⟨w.heap.size + 1, 0, none⟩), .func (.func 91) #[] #[.pointer (some ⟨g, 0, none⟩)], .pointer (some ⟨w1.heap.size, 0, none⟩), .string (mkS x.1), .string (mkS x.2), .slice a L.length cap, .func (.func 91) #[] #[.pointer (some ⟨g, 0, none⟩)], .func (.func 91) #[] #[.pointer (some ⟨g, 0, none⟩)], .bool false, .func (.func 91) #[] #[.pointer (some ⟨g, 0, none⟩)], .string (mkS x.1), .string (mkS x.2), undef, undef, undef, undef, undef, undef, undef, undef, undef, undef], defers := [] }) ?assign ?body ?done
  case known =>
    rintro s M W ⟨-, v, hv, hr, hM⟩ k hk
    rcases (hM k).1 hk with rfl | h
    · exact hv.lt
    · exact (hr.lt k h).2
  case abides =>
    rintro s M W W' ⟨h1, v, hv, hr, hM⟩ hm
    exact ⟨below_mine h1 hm (by omega), v, (hm.same _ hv.lt (.inr ((hM _).2 (.inl rfl)))).trans hv, own_sameC hr fun k hk => hm.same k (hr.lt k hk).2 (.inr ((hM k).2 (.inr hk))), hM⟩
  case reads =>
    rintro s M W ⟨h1, -⟩
    exact ⟨(h1.cell (p := ⟨g, 0, none⟩) (cell_in (p := ⟨g, 0, none⟩) HC.out)).trans HC.out, isStrsC_below HT.out h1⟩
  case assign =>
    intro l m x W K hK
    unfold pairE
    gi_wp2
    exact hK
  case body =>
    rintro lp m pre x M W ⟨hB, v, hv, hrow, hM⟩ hpre
    have hpl : pre.length + 1 ≤ 700 := by
      have h3 := hpre.length_le
      simp at h3
      omega
    obtain ⟨a1, c1, rfl⟩ : ∃ a c, v = .slice a pre.length c := by obtain ⟨a, c, h, -⟩ := isPrs_own hrow; exact ⟨a, c, h⟩
    obtain ⟨n, t⟩ := x
    have hc := hv.cell
    have hWz := hv.lt
    have hq : ¬ ((700 : Int) < (pre.length : Int)) := by omega
    have HB := Lib.hid hB
    have HRow := Lib.hid hrow
    have HV := Lib.hid hv
    have HM := Lib.hid hM
    clear hB hrow hv hM hb0 bO HH
    gi_wp2_with (gi_at_builtin; refine wpListIn_append_own_at _ rfl _ _ 65 rfl w1.heap.size 72 i0 (.agg #[.string .empty, .string .empty]) 2 32 Tryz.underlying65 hi0 hz0 hz1 hz2 rfl (by decide) _ _ _ rfl (HRow.out.alloc _) ⟨W.heap.size, 0, none⟩ 1 1 [.string (mkS n), .string (mkS t)] rfl rfl (cell_two_newC _ _ _ _) (by simp [Value.oneCell']) (by simp only [maxLen]; omega) (by omega) (by simp; omega) ?_; intro v' w4 hown' hgrow _ hat; obtain ⟨g', cap', rfl⟩ := ownsRow_succ hown'; obtain ⟨hv1, hv2, hr2, hk2, hb2⟩ := HV.out.appended (by decide) HRow.out (Nat.le_of_lt hWz) (Nat.le_refl _) hown' hgrow; have hc1 := hv1.cell; have hf1 := hv1.frozen)
    have e1 : pcells (pre ++ [(n, t)]) = pcells pre ++ [.string (mkS n), .string (mkS t)] := by rw [pcells_app]; rfl
    refine ⟨fun k => k = w1.heap.size ∨ Value.ownBlock (.slice (some ⟨g', 0, none⟩) (pre.length + 1) cap') = some k, ⟨HB.out.trans hb2, _, hv2, ?_, fun _ => Iff.rfl⟩, hb2.size, ?_, ?_⟩
    · rw [e1, List.length_append]
      exact hr2
    · intro k hk hnk
      have n1 : k ≠ w1.heap.size := fun e => hnk ((HM.out k).2 (.inl e))
      have n2 : some k ≠ Value.ownBlock (.slice a1 pre.length c1) := fun e => hnk ((HM.out k).2 (.inr e.symm))
      have e2 := hgrow.block k (by simp; omega) n2
      have e3 := ((grownBy_setCell' w4 w1.heap.size (.slice (some ⟨g', 0, none⟩) (pre.length + 1) cap')).block k (Nat.lt_of_lt_of_le (by simp; omega) hgrow.size) (by intro e; injection e with e; exact n1 e))
      exact e3.trans (e2.trans ((below_allocC W _).block k hk))
    · rintro k (rfl | h)
      · exact .inl ((HM.out _).2 (.inl rfl))
      · rcases hat with h2 | h2
        · exact .inl ((HM.out _).2 (.inr (h2.symm.trans h)))
        · rw [h2] at h
          injection h with h
          right
          rw [← h]
          simp
  case done =>
    rintro D M W hD hMD ⟨hB, v, hv, hrow, hM⟩ hd
    obtain ⟨a1, c1, rfl⟩ : ∃ a c, v = .slice a (pairsL L).length c := by obtain ⟨a, c, h, -⟩ := isPrs_own hrow; exact ⟨a, c, h⟩
    have hc := hv.cell
    have h1 : Boxed W w.heap.size 65 (.slice none 0 0) := (hB.block _ l1).trans BR.out
    have h2 : Boxed W (w.heap.size + 1) 4 (.bool false) := (hB.block _ l2).trans BK.out
    have hc1 := h1.cell
    have hf1 := h1.frozen
    have hc2 := h2.cell
    have hf2 := h2.frozen
    have H1 := Lib.hid h1
    have H2 := Lib.hid h2
    have HB := Lib.hid (HB1.out.trans (hB.mono HB1.out.size))
    have HRow := Lib.hid hrow
    have HD := Lib.hid hd
    clear h1 h2 hB hrow hv hM hd hb0 bO HH hMD
    gi_wp2_with fail
    have hne1 : w.heap.size ≠ w.heap.size + 1 := by omega
    have hDz : w1.heap.size < D := by omega
    have b1 := (H1.out.set (.slice a1 (pairsL L).length c1)).other hne1 (.bool true)
    have b2 := (H2.out.other (Ne.symm hne1) (.slice a1 (pairsL L).length c1)).set (.bool true)
    have k1 := HRow.out.kept (grownBy_setCell' W w.heap.size (.slice a1 (pairsL L).length c1)) (.inr (H1.out.not_row (by decide) HRow.out).symm)
    have k2 := k1.kept (grownBy_setCell' _ (w.heap.size + 1) (.bool true)) (.inr ((H2.out.other (Ne.symm hne1) (.slice a1 (pairsL L).length c1)).not_row (by decide) k1).symm)
    have hK2 := ((KeepsOthers.setCell W ⟨w.heap.size, 0, none⟩ (.slice a1 (pairsL L).length c1)).trans (KeepsOthers.setCell _ ⟨w.heap.size + 1, 0, none⟩ (.bool true))).same D _ HD.out rfl
    have hBF := (HB.out.setCell (p := ⟨w.heap.size, 0, none⟩) (Nat.le_refl _) (.slice a1 (pairsL L).length c1)).setCell (p := ⟨w.heap.size + 1, 0, none⟩) (Nat.le_succ _) (.bool true)
    generalize (W.setCell ⟨w.heap.size, 0, none⟩ (.slice a1 (pairsL L).length c1)).setCell ⟨w.heap.size + 1, 0, none⟩ (.bool true) = W5 at *
    have z1 := (b1.kept (grownBy_putObj' W5 D (.deferred none)) (by intro e; injection e with e; omega)).cell
    have z2 := (b2.kept (grownBy_putObj' W5 D (.deferred none)) (by intro e; injection e with e; omega)).cell
    refine ⟨by simp, .inl ⟨_, _, rfl, run_takeDeferred hK2, ?_⟩⟩
    refine ⟨_, ?_, _, rfl, own_baseC (ownsRow_putObj k2 _ hK2 rfl) (by omega), hBF.trans (belowK_b (w := w) (Nat.le_refl _) W5 D _ _ (by omega) hK2 rfl rfl)⟩
    simp [results, Tryz.results31, go_sem, z1, z2]
end Tk
end Go.Proofs.YtnbipbeeengiaaaGreatDoor
namespace Go.Proofs.YtnbipbeeengiaaaGreatDoor
open Go.RowKit
namespace Tk

theorem pair_neq (W : World) (a b : ByteArray) : (binOp .neq 72 (.agg #[.string a, .string b]) (.agg #[.string a, .string b])).run Tryz.prog W = .ok (.bool false) W := by
  obtain ⟨i0, hi, -⟩ := info_parts strInfo
  have hc : Tryz.prog.cellsOf 9 = 1 := by kernel_rfl
  rw [run_neq_struct, show (10000 : Nat) = 9999 + 1 from rfl, run_equalIn_array W 9999 _ _ Tryz.underlying72 hi, hc]
  simp [List.range, List.range.loop, Op.eqItems, part, go_sem]

set_option maxHeartbeats 2000000 in
set_option maxRecDepth 100000 in
theorem psame_self (v1 v2 : Value) (l : List (Bs × Bs)) (w : World) (h1 : IsPrs w v1 l) (h2 : IsPrs w v2 l) (hl : l.length ≤ 1099511627) :
    Calls Tryz.prog 33 #[v1, v2] w fun e w' => e = .returned (.bool true) ∧ Below w.heap.size w w' := by
  obtain ⟨a1, c1, rfl, l1, k1⟩ := h1
  obtain ⟨a2, c2, rfl, l2, k2⟩ := h2
  have K1 := Lib.hid k1
  have K2 := Lib.hid k2
  have hb : ((l.length : Int) != (l.length : Int)) = false := by simp
  clear k1 k2
  go_enter Tryz.func33, Tryz.ntmps33
  go_wp2_with fail
  go_loopw [5] (fun v wr => ∃ (j n : Nat), j ≤ l.length ∧ v = .int .i64 j ∧ wr = w.drewN n) (fun v _ => l.length - (RowKit.intOf v).toNat)
  case atStart => exact ⟨0, 0, Nat.zero_le _, rfl, rfl⟩
  case round =>
    obtain ⟨j, n, hj, rfl, rfl⟩ := hrel
    by_cases hlt : j < l.length
    · obtain ⟨b1, o1, rfl, d1, d2⟩ := K1.out j (l.getD j ([], [])) (by simp [List.getD, hlt])
      obtain ⟨b2, o2, rfl, d3, d4⟩ := K2.out j (l.getD j ([], [])) (by simp [List.getD, hlt])
      have hfn := pair_neq
      generalize l.getD j ([], []) = f at *
      have g0 : (0 : Int) ≤ (j : Int) := by omega
      have g1 : (j : Int) < (l.length : Int) := by omega
      go_wp2_with fail
      go_quiet (fail)
      go_wp2_with fail
      exact ⟨⟨j + 1, _, by omega, by go_num, rfl⟩, by simp [RowKit.intOf]; omega⟩
    · go_wp2_with fail
      go_ret
      exact ⟨rfl, ⟨rfl, rfl, rfl, Nat.le_refl _, fun _ _ => rfl⟩⟩
end Tk
end Go.Proofs.YtnbipbeeengiaaaGreatDoor
