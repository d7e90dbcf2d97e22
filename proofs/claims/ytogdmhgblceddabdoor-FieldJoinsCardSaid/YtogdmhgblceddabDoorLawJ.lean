/- The law FieldJoins: its walk. -/
import Derived.Test.YtogdmhgblceddabDoorFldN
import Derived.Test.YtogdmhgblceddabDoorFldS
import Derived.Test.YtogdmhgblceddabDoorJoinF
import Derived.Test.YtogdmhgblceddabDoorRefL
namespace Go.Proofs.YtogdmhgblceddabDoor
open Go.RowKit
namespace Tk

theorem okFs_app (l m : List (Bs × Bs)) : okFs (l ++ m) = (okFs l && okFs m) := by unfold okFs; rw [List.all_append]
theorem lines_app (l m : List (Bs × Bs)) : linesF (l ++ m) = linesF l ++ linesF m := by unfold linesF; rw [List.flatMap_append]
theorem sumF_app : ∀ l m : List (Bs × Bs), sumF (l ++ m) = sumF l + sumF m
  | [], m => by simp [sumF]
  | f :: t, m => by rw [List.cons_append, sumF, sumF, sumF_app t m]; omega
/-- the fields with their names in small letters -/
def lowF (l : List (Bs × Bs)) : List (Bs × Bs) := l.map fun f => (lowL f.1, f.2)
theorem eqF_symm (f g : Bs × Bs) : eqF f g = eqF g f := by unfold eqF; simp only [eq_comm]
theorem sameFs_symm : ∀ l m : List (Bs × Bs), sameFs l m = sameFs m l
  | [], [] => rfl
  | f :: t, g :: u => by rw [sameFs, sameFs, eqF_symm, sameFs_symm t u]
  | [], _ :: _ => rfl
  | _ :: _, [] => rfl
theorem sameFs_low : ∀ l : List (Bs × Bs), sameFs l (lowF l) = true
  | [] => rfl
  | f :: t => by
    have := sameFs_low t
    unfold lowF at *
    rw [List.map_cons, sameFs, this]
    simp [eqF, lowL_lowL]
theorem byN_app (l m : List (Bs × Bs)) (h : okFs (l ++ m) = true) : byN (l ++ m) = byN l ++ byN m := by
  have h2 := h
  rw [okFs_app, Bool.and_eq_true] at h2
  unfold byN
  rw [h, h2.1, h2.2]
  exact lines_app l m

set_option maxRecDepth 100000 in
set_option maxHeartbeats 2000000 in
theorem joins_big (v1 v2 : Value) (l m : List (Bs × Bs)) (w : World) (h1 : IsFlds w v1 l) (h2 : IsFlds w v2 m)
    (z1 : ∀ f ∈ l, f.1.length ≤ 140737488351232 ∧ f.2.length ≤ 140737488351232) (z2 : ∀ f ∈ m, f.1.length ≤ 140737488351232 ∧ f.2.length ≤ 140737488351232) (hl : l.length ≤ 140737488351232) (hm : m.length ≤ 140737488351232)
    (hb : lightF l = false ∨ (lightF l = true ∧ lightF m = false)) :
    Calls Tryd.prog 3 #[v1, v2] w (Yes2 w) := by
  have HL := Lib.hid (lives02_any w)
  have HB := Lib.hid (fun (W : World) (h : Below w.heap.size w W) => light02_any v1 l W (isFlds_below h1 h) z1 hl)
  have HC := Lib.hid (fun (W : World) (h : Below w.heap.size w W) => light02_any v2 m W (isFlds_below h2 h) z2 hm)
  obtain ⟨a1, c1, rfl⟩ : ∃ a cap, v1 = .slice a l.length cap := by obtain ⟨a, c, h, -⟩ := h1; exact ⟨a, c, h⟩
  obtain ⟨a2, c2, rfl⟩ : ∃ a cap, v2 = .slice a m.length cap := by obtain ⟨a, c, h, -⟩ := h2; exact ⟨a, c, h⟩
  clear h1 h2 z1 z2
  rcases hb with hb | ⟨hb, hb2⟩
  · rw [hb] at HB
    clear hb
    go_enter Tryd.func3, Tryd.ntmps3
    go_wp2_with fail
    refine HL.out.mono ?_
    rintro e w1 ⟨rfl, hb⟩
    have HB1 := Lib.hid hb
    clear hb
    go_wp2_with fail
    refine (HB.out _ HB1.out).mono ?_
    rintro e w2 ⟨rfl, n, rfl⟩
    go_wp2_with fail
    go_ret
    exact ⟨rfl, below_some_draws HB1.out n⟩
  · rw [hb] at HB
    rw [hb2] at HC
    clear hb hb2
    go_enter Tryd.func3, Tryd.ntmps3
    go_wp2_with fail
    refine HL.out.mono ?_
    rintro e w1 ⟨rfl, hb⟩
    have HB1 := Lib.hid hb
    clear hb
    go_wp2_with fail
    refine (HB.out _ HB1.out).mono ?_
    rintro e w2 ⟨rfl, n, rfl⟩
    have HB2 := Lib.hid (below_some_draws HB1.out n)
    go_wp2_with fail
    refine (HC.out _ HB2.out).mono ?_
    rintro e w2 ⟨rfl, n2, rfl⟩
    go_wp2_with fail
    go_ret
    exact ⟨rfl, below_some_draws HB1.out (n + n2)⟩

theorem own_keep2 {w w' : World} {B : Nat} {v : Value} {n : Nat} {xs : List Value} {e : TypeId} (h : w.ownsRow B e 2 v n xs) (hb : Below w.heap.size w w') : w'.ownsRow B e 2 v n xs :=
  World.ownsRow.kept h (row := none) ⟨hb.os, hb.tape, hb.output, hb.size, fun k hk _ => hb.block k hk⟩ (by cases h : v.ownBlock <;> simp)
/-- the first i in small letters -/
def midF (l : List (Bs × Bs)) (i : Nat) : List (Bs × Bs) := lowF (l.take i) ++ l.drop i
theorem midF_zero (l : List (Bs × Bs)) : midF l 0 = l := by unfold midF lowF; simp
theorem midF_len (l : List (Bs × Bs)) (i : Nat) : (midF l i).length = l.length := by
  unfold midF lowF; simp; omega
theorem midF_get (l : List (Bs × Bs)) (i : Nat) (h : i < l.length) : (midF l i)[i]? = some (l.getD i ([], [])) := by
  unfold midF
  rw [List.getElem?_append_right (by unfold lowF; simp; omega)]
  have : i - (lowF (l.take i)).length = 0 := by unfold lowF; simp; omega
  rw [this, List.getElem?_drop, Nat.add_zero]
  simp [List.getD, h]
theorem fcells_set : ∀ (a : List (Bs × Bs)) (f : Bs × Bs) (b : List (Bs × Bs)) (z : Bs), (fcells (a ++ f :: b)).set (a.length * 2) (.string (mkS z)) = fcells (a ++ (z, f.2) :: b)
  | [], f, b, z => by simp [fcells]
  | g :: a, f, b, z => by
    have := fcells_set a f b z
    unfold fcells at *
    rw [List.cons_append, List.cons_append, List.flatMap_cons, List.flatMap_cons, List.length_cons, show (a.length + 1) * 2 = a.length * 2 + 2 by omega]
    simpa using this
theorem midF_next (l : List (Bs × Bs)) (i : Nat) (h : i < l.length) : (fcells (midF l i)).set (i * 2) (.string (mkS (lowL (l.getD i ([], [])).1))) = fcells (midF l (i + 1)) := by
  have hd : l.drop i = l.getD i ([], []) :: l.drop (i + 1) := by rw [List.drop_eq_getElem_cons h]; simp [List.getD, h]
  have ht : l.take (i + 1) = l.take i ++ [l.getD i ([], [])] := by rw [List.take_succ_eq_append_getElem h]; simp [List.getD, h]
  have hlen : (lowF (l.take i)).length = i := by unfold lowF; simp; omega
  unfold midF
  rw [hd, ht]
  have := fcells_set (lowF (l.take i)) (l.getD i ([], [])) (l.drop (i + 1)) (lowL (l.getD i ([], [])).1)
  rw [hlen] at this
  rw [this]
  unfold lowF
  simp
theorem lowF_len (l : List (Bs × Bs)) : (lowF l).length = l.length := by unfold lowF; simp
theorem midF_end (l : List (Bs × Bs)) : midF l l.length = lowF l := by unfold midF; simp

set_option maxRecDepth 100000 in
set_option maxHeartbeats 16000000 in
theorem joins_walk (a1 a2 : Option Addr) (c1 c2 : Nat) (l m : List (Bs × Bs)) (w : World) (A B C : ByteArray) (e1 e2 e3 : Int) (lz1 : A.size ≤ 720) (lz2 : B.size ≤ 720)
    (hcs : (e1 = 0 ∧ e2 = 0 ∧ e3 = 0 ∧ C = A ++ B) ∨ (e1 = 4 ∧ (e2 = 0 ∨ e2 = 4) ∧ e3 = 4) ∨ (e1 = 0 ∧ e2 = 4 ∧ e3 = 4)) (hl30 : l.length ≤ 30) (hm30 : m.length ≤ 30)
    (HL : Hid (Calls Tryd.prog 4 #[] w (Yes2 w)))
    (HB : Hid (∀ W, Below w.heap.size w W → Calls Tryd.prog 5 #[.slice a1 l.length c1] W fun e w' => e = .returned (.bool true) ∧ ∃ n, w' = W.drewN n))
    (HC : Hid (∀ W, Below w.heap.size w W → Calls Tryd.prog 5 #[.slice a2 m.length c2] W fun e w' => e = .returned (.bool true) ∧ ∃ n, w' = W.drewN n))
    (H1 : Hid (IsFlds w (.slice a1 l.length c1) l)) (H2 : Hid (IsFlds w (.slice a2 m.length c2) m)) (N2 : Hid (∀ n c, Value.slice a2 m.length c2 = .slice none n c → c = 0))
    (BY1 : Hid (∀ W, Below w.heap.size w W → Calls Tryd.prog 6 #[.slice a1 l.length c1] W fun e w' => e = .returned (.tuple #[.string A, .int .i64 e1]) ∧ Below W.heap.size W w'))
    (BY2 : Hid (∀ W, Below w.heap.size w W → Calls Tryd.prog 6 #[.slice a2 m.length c2] W fun e w' => e = .returned (.tuple #[.string B, .int .i64 e2]) ∧ Below W.heap.size W w'))
    (BY3 : Hid (∀ W v3, IsFlds W v3 (l ++ m) → Calls Tryd.prog 6 #[v3] W fun e w' => e = .returned (.tuple #[.string C, .int .i64 e3]) ∧ Below W.heap.size W w'))
    (OW : Hid (∀ W, Below w.heap.size w W → Calls Tryd.prog 7 #[.slice a1 l.length c1] W fun e w' => ∃ v', e = .returned v' ∧ w'.ownsRow W.heap.size 30 2 v' l.length (fcells l) ∧ Below W.heap.size W w'))
    (HSm : Hid (∀ f, f ∈ l ∨ f ∈ m → f.1.length ≤ 720)) :
    Calls Tryd.prog 3 #[.slice a1 l.length c1, .slice a2 m.length c2] w (Yes2 w) := by
  rcases hcs with ⟨rfl, rfl, rfl, rfl⟩ | ⟨rfl, hf, rfl⟩ | ⟨rfl, rfl, rfl⟩
  all_goals
    go_enter Tryd.func3, Tryd.ntmps3
    go_wp2_with fail
    refine HL.out.mono ?_
    rintro e w1 ⟨rfl, hb⟩
    have HB1 := Lib.hid hb
    clear hb
    go_wp2_with fail
    refine (HB.out _ HB1.out).mono ?_
    rintro e w2 ⟨rfl, k1, rfl⟩
    have HB2 := Lib.hid (below_some_draws HB1.out k1)
    go_wp2_with fail
    refine (HC.out _ HB2.out).mono ?_
    rintro e w2 ⟨rfl, k2, rfl⟩
    have HB3 := Lib.hid (below_some_draws HB1.out (k1 + k2))
    go_wp2_with fail
    refine (BY1.out _ HB3.out).mono ?_
    rintro e w3 ⟨rfl, hb⟩
    have HB4 := Lib.hid (HB3.out.trans (hb.mono HB3.out.size))
    clear hb
    go_wp2_with fail
    refine (BY2.out _ HB4.out).mono ?_
    rintro e w4 ⟨rfl, hb⟩
    have HB5 := Lib.hid (HB4.out.trans (hb.mono HB4.out.size))
    clear hb
    go_wp2_with fail
    refine (OW.out _ HB5.out).mono ?_
    rintro e w5 ⟨v5, rfl, ho5, hb5⟩
    have HB6 := Lib.hid (HB5.out.trans (hb5.mono HB5.out.size))
    have HF6 := Lib.hid (isFlds_below H2.out HB6.out)
    have HO5 := Lib.hid ho5
    have hsz := hb5.size
    clear ho5 hb5
    go_wp2_with (at_builtin; refine joinF_guarded (by rfl) _ _ rfl w4.heap.size _ _ l m rfl rfl HO5.out HF6.out N2.out hsz (by omega) (by omega) ?_)
    intro v6 w6 ho6 hg6
    have HB7 := Lib.hid (HB6.out.trans ((below_of_grownF hg6 HO5.out hsz).mono HB5.out.size))
    rw [← List.length_append] at ho6
    have HF7 := Lib.hid (isFlds_own ho6)
    clear ho6 hg6
    go_wp2_with fail
    refine (BY3.out _ _ HF7.out).mono ?_
    rintro e w7 ⟨rfl, hb⟩
    have HB8 := Lib.hid (HB7.out.trans (hb.mono HB7.out.size))
    clear hb
    go_wp2_with fail
    refine (OW.out _ HB8.out).mono ?_
    rintro e w8 ⟨v8, rfl, ho8, hb8⟩
    have HB9 := Lib.hid (HB8.out.trans (hb8.mono HB8.out.size))
    obtain ⟨a8, c8, rfl⟩ : ∃ a c, v8 = .slice a l.length c := by
      rcases ho8.2 with ⟨hv, hn⟩ | ⟨g, cap, cur, hv, _⟩
      · exact ⟨none, 0, by rw [hv, hn]⟩
      · exact ⟨_, _, hv⟩
    have HO8 := Lib.hid (show w8.ownsRow w7.heap.size 30 2 (.slice a8 l.length c8) l.length (fcells (midF l 0)) from by rw [midF_zero]; exact ho8)
    have HW7 := Lib.hid HB8.out.size
    clear hb8 ho8
    generalize w7.heap.size = B7 at *
    go_wp2_with fail
    go_loopw [12] (fun vi wr => ∃ i : Nat, i ≤ l.length ∧ vi = .int .i64 i ∧ Hid (wr.ownsRow B7 30 2 (.slice a8 l.length c8) l.length (fcells (midF l i))) ∧ Hid (Below w.heap.size w wr)) (fun vi _ => l.length - (RowKit.intOf vi).toNat)
    case atStart => exact ⟨0, Nat.zero_le _, rfl, HO8, HB9⟩
    case round =>
      obtain ⟨i, hi, rfl, HO, HB0⟩ := hrel
      rename World => W
      by_cases hlt : i < l.length
      · obtain ⟨g, hg, rfl⟩ : ∃ g, B7 ≤ g ∧ a8 = some ⟨g, 0, none⟩ := by
          rcases HO.out.2 with ⟨hv, hn⟩ | ⟨g, cap, cur, hv, hge, _⟩
          · omega
          · injection hv with e1 _ _
            exact ⟨g, hge, e1⟩
        have hmid := fcells_get _ i _ (midF_get l i hlt)
        have z1 := HSm.out (l.getD i ([], [])) (.inl (by simp [List.getD, hlt]))
        have hnext := midF_next l i hlt
        have HN := Lib.hid hnext
        have hc0 := HO.out.cellAt (i * 2) (by omega)
        rw [hmid.1] at hc0
        have hf0 := HO.out.frozenAt (i * 2)
        have HMid := Lib.hid hmid.1
        clear hmid hnext
        generalize (l.getD i ([], [])).1 = n at *
        have HRL := Lib.hid (refLower_any (mkS n) W (by rw [size_mkS]; omega))
        rw [bs_mkS] at HRL
        have g0 : (0 : Int) ≤ (i : Int) := by omega
        have g1 : (i : Int) < (l.length : Int) := by omega
        go_wp2_with fail
        refine HRL.out.mono ?_
        rintro e W2 ⟨rfl, hb2⟩
        have ho2 := own_keep2 HO.out hb2
        have HB2' := Lib.hid (HB0.out.trans (hb2.mono HB0.out.size))
        have hc2 := ho2.cellAt (i * 2) (by omega)
        rw [HMid.out] at hc2
        have hf2 := ho2.frozenAt (i * 2)
        have HO2 := Lib.hid ho2
        clear ho2 hb2 hc0 hf0
        go_wp2_with fail
        have hst := HO2.out.stored (i * 2) (.string (mkS (lowL n)))
        rw [HN.out] at hst
        refine ⟨⟨i + 1, hlt, by go_num, hst.1, ?_⟩, by simp [RowKit.intOf]; omega⟩
        have := HW7.out
        exact HB2'.out.setCell (p := ⟨g, i * 2, none⟩) (by simp; omega) _
      · obtain rfl : i = l.length := by omega
        have hol := HO.out
        rw [midF_end, ← lowF_len l] at hol
        have HFl := Lib.hid (isFlds_own hol)
        rw [lowF_len l] at HFl
        clear hol
        have S1 := Lib.hid (fsame_any (.slice a1 l.length c1) (.slice a8 l.length c8) l (lowF l) W (isFlds_below H1.out HB0.out) HFl.out ?_ (by omega) (by rw [lowF_len]; omega))
        rotate_left
        · intro f hf
          rcases hf with hf | hf
          · have := HSm.out f (.inl hf); omega
          · obtain ⟨g, hg, rfl⟩ := List.mem_map.1 hf
            have := HSm.out g (.inl hg)
            show (lowL g.1).length ≤ _
            rw [length_lowL]; omega
        rw [sameFs_low] at S1
        go_wp2_with fail
        refine S1.out.mono ?_
        rintro e x1 ⟨rfl, hbx⟩
        have HX1 := Lib.hid (HB0.out.trans (hbx.mono HB0.out.size))
        have HFl1 := Lib.hid (isFlds_below HFl.out hbx)
        clear hbx
        have S2 := Lib.hid (fsame_any (.slice a8 l.length c8) (.slice a1 l.length c1) (lowF l) l x1 HFl1.out (isFlds_below H1.out HX1.out) ?_ (by rw [lowF_len]; omega) (by omega))
        rotate_left
        · intro f hf
          rcases hf with hf | hf
          · obtain ⟨g, hg, rfl⟩ := List.mem_map.1 hf
            have := HSm.out g (.inl hg)
            show (lowL g.1).length ≤ _
            rw [length_lowL]; omega
          · have := HSm.out f (.inl hf); omega
        rw [sameFs_symm, sameFs_low] at S2
        go_wp2_with fail
        refine S2.out.mono ?_
        rintro e x2 ⟨rfl, hbx⟩
        have HX2 := Lib.hid (HX1.out.trans (hbx.mono HX1.out.size))
        clear hbx
        have hzz : ∀ f, f ∈ l ∨ f ∈ m → f.1.length ≤ 1099511627776 := fun f hf => by have := HSm.out f hf; omega
        have HZ1 := Lib.hid hzz
        have HZ2 := Lib.hid (fun f (hf : f ∈ m ∨ f ∈ l) => hzz f hf.symm)
        clear hzz
        have hll : sameFs l m = true → l.length = m.length := sameFs_len l m
        have S3 := Lib.hid (fun (W : World) (h : Below w.heap.size w W) => fsame_any _ _ l m W (isFlds_below H1.out h) (isFlds_below H2.out h) HZ1.out (by omega) (by omega))
        have S4 := Lib.hid (fun (W : World) (h : Below w.heap.size w W) => fsame_any _ _ m l W (isFlds_below H2.out h) (isFlds_below H1.out h) HZ2.out (by omega) (by omega))
        rw [sameFs_symm m l] at S4
        generalize sameFs l m = b at *
        cases b
        · clear hll
          go_wp2_with fail
          refine (S3.out _ HX2.out).mono ?_
          rintro e x3 ⟨rfl, hbx⟩
          have HX3 := Lib.hid (HX2.out.trans (hbx.mono HX2.out.size))
          clear hbx
          go_wp2_with fail
          refine (S4.out _ HX3.out).mono ?_
          rintro e x4 ⟨rfl, hbx⟩
          have HX4 := Lib.hid (HX3.out.trans (hbx.mono HX3.out.size))
          clear hbx
          go_wp2_with fail
          refine (S3.out _ HX4.out).mono ?_
          rintro e x5 ⟨rfl, hbx⟩
          have HX5 := Lib.hid (HX4.out.trans (hbx.mono HX4.out.size))
          clear hbx
          go_wp2_with fail
          go_ret
          exact ⟨rfl, HX5.out⟩
        · have hlm := hll rfl
          have hlm2 : ((l.length : Int) == (m.length : Int)) = true := by rw [hlm]; simp
          have HLM := Lib.hid hlm
          clear hll hlm
          go_wp2_with fail
          refine (S3.out _ HX2.out).mono ?_
          rintro e x3 ⟨rfl, hbx⟩
          have HX3 := Lib.hid (HX2.out.trans (hbx.mono HX2.out.size))
          clear hbx
          go_wp2_with fail
          refine (S4.out _ HX3.out).mono ?_
          rintro e x4 ⟨rfl, hbx⟩
          have HX4 := Lib.hid (HX3.out.trans (hbx.mono HX3.out.size))
          clear hbx
          go_wp2_with fail
          refine (S3.out _ HX4.out).mono ?_
          rintro e x5 ⟨rfl, hbx⟩
          have HX5 := Lib.hid (HX4.out.trans (hbx.mono HX4.out.size))
          clear hbx
          go_wp2_with fail
          go_ret
          exact ⟨rfl, HX5.out⟩

set_option maxRecDepth 100000 in
set_option maxHeartbeats 16000000 in
theorem joins_main (v1 v2 : Value) (l m : List (Bs × Bs)) (w : World) (h1 : IsFlds w v1 l) (h2 : IsFlds w v2 m) (n1 : ∀ n c, v1 = .slice none n c → c = 0) (n2 : ∀ n c, v2 = .slice none n c → c = 0)
    (z1 : ∀ f ∈ l, f.1.length ≤ 140737488351232 ∧ f.2.length ≤ 140737488351232) (z2 : ∀ f ∈ m, f.1.length ≤ 140737488351232 ∧ f.2.length ≤ 140737488351232) (hl : l.length ≤ 140737488351232) (hm : m.length ≤ 140737488351232)
    (hb : lightF l = true) (hb2 : lightF m = true) :
    Calls Tryd.prog 3 #[v1, v2] w (Yes2 w) := by
  have HL := Lib.hid (lives02_any w)
  have HB := Lib.hid (fun (W : World) (h : Below w.heap.size w W) => light02_any v1 l W (isFlds_below h1 h) z1 hl)
  have HC := Lib.hid (fun (W : World) (h : Below w.heap.size w W) => light02_any v2 m W (isFlds_below h2 h) z2 hm)
  obtain ⟨hl30, hs1⟩ := lightF_parts l hb
  obtain ⟨hm30, hs2⟩ := lightF_parts m hb2
  rw [hb] at HB
  rw [hb2] at HC
  have H1 := Lib.hid h1
  have H2 := Lib.hid h2
  have N1 := Lib.hid n1
  have N2 := Lib.hid n2
  have BY1 := Lib.hid (fun (W : World) (h : Below w.heap.size w W) => bytes_any v1 l W (isFlds_below h1 h) (by omega) (by omega))
  have BY2 := Lib.hid (fun (W : World) (h : Below w.heap.size w W) => bytes_any v2 m W (isFlds_below h2 h) (by omega) (by omega))
  have BY3 := Lib.hid (fun (W : World) (v3 : Value) (h : IsFlds W v3 (l ++ m)) => bytes_any v3 (l ++ m) W h (by rw [sumF_app]; omega) (by rw [List.length_append]; omega))
  unfold BytesPost at BY1 BY2 BY3
  have OW := Lib.hid (fun (W : World) (h : Below w.heap.size w W) => own_any v1 l W (isFlds_below h1 h) n1 (by omega))
  obtain ⟨a1, c1, rfl⟩ : ∃ a cap, v1 = .slice a l.length cap := by obtain ⟨a, c, h, -⟩ := h1; exact ⟨a, c, h⟩
  obtain ⟨a2, c2, rfl⟩ : ∃ a cap, v2 = .slice a m.length cap := by obtain ⟨a, c, h, -⟩ := h2; exact ⟨a, c, h⟩
  have HSm := Lib.hid (fun (f : Bs × Bs) (h : f ∈ l ∨ f ∈ m) => show f.1.length ≤ 720 by
    rcases h with h | h
    · have := sumF_mem l f h; omega
    · have := sumF_mem m f h; omega)
  have hjoin := byN_app l m
  have hE : byE (l ++ m) = if okFs l && okFs m then 0 else 4 := by unfold byE; rw [okFs_app]
  have hE1 : byE l = if okFs l then 0 else 4 := rfl
  have hE2 : byE m = if okFs m then 0 else 4 := rfl
  clear h1 h2 z1 z2 n1 n2 hb hb2
  have lz1 : (byN l).length ≤ 720 := by
    unfold byN; split
    · rw [lines_len]; exact hs1
    · simp
  have lz2 : (byN m).length ≤ 720 := by
    unfold byN; split
    · rw [lines_len]; exact hs2
    · simp
  rw [← size_mkS] at lz1 lz2
  have hcs : (okFs l = true ∧ okFs m = true) ∨ okFs l = false ∨ (okFs l = true ∧ okFs m = false) := by
    cases okFs l <;> cases okFs m <;> simp
  rcases hcs with ⟨ho1, ho2⟩ | ho1 | ⟨ho1, ho2⟩
  · rw [ho1] at hE1 hE
    rw [ho2] at hE2 hE
    have hj := hjoin (by rw [okFs_app, ho1, ho2]; rfl)
    have hcat : mkS (byN (l ++ m)) = mkS (byN l) ++ mkS (byN m) := by rw [hj, mkS_append]
    rw [hcat, show byE (l ++ m) = 0 from hE] at BY3
    rw [show byE l = 0 from hE1] at BY1
    rw [show byE m = 0 from hE2] at BY2
    clear hjoin hE hE1 hE2 hj hcat ho1 ho2
    generalize mkS (byN l) = A at *
    generalize mkS (byN m) = B at *
    exact joins_walk a1 a2 c1 c2 l m w A B (A ++ B) 0 0 0 lz1 lz2 (.inl ⟨rfl, rfl, rfl, rfl⟩) hl30 hm30 HL HB HC H1 H2 N2 BY1 BY2 BY3 OW HSm
  · rw [ho1] at hE1 hE
    rw [show byE (l ++ m) = 4 from hE] at BY3
    rw [show byE l = 4 from hE1] at BY1
    have hf : byE m = 0 ∨ byE m = 4 := by unfold byE; cases okFs m <;> simp
    clear hjoin hE hE1 hE2 ho1
    generalize mkS (byN l) = A at *
    generalize mkS (byN m) = B at *
    generalize mkS (byN (l ++ m)) = C at *
    generalize byE m = f at *
    exact joins_walk a1 a2 c1 c2 l m w A B C 4 f 4 lz1 lz2 (.inr (.inl ⟨rfl, hf, rfl⟩)) hl30 hm30 HL HB HC H1 H2 N2 BY1 BY2 BY3 OW HSm
  · rw [ho1] at hE1 hE
    rw [ho2] at hE2 hE
    rw [show byE (l ++ m) = 4 from hE] at BY3
    rw [show byE l = 0 from hE1] at BY1
    rw [show byE m = 4 from hE2] at BY2
    clear hjoin hE hE1 hE2 ho1 ho2
    generalize mkS (byN l) = A at *
    generalize mkS (byN m) = B at *
    generalize mkS (byN (l ++ m)) = C at *
    exact joins_walk a1 a2 c1 c2 l m w A B C 0 4 4 lz1 lz2 (.inr (.inr ⟨rfl, rfl, rfl⟩)) hl30 hm30 HL HB HC H1 H2 N2 BY1 BY2 BY3 OW HSm

/-- The law FieldJoins, whatever the two lists. -/
theorem joins_any (v1 v2 : Value) (l m : List (Bs × Bs)) (w : World) (h1 : IsFlds w v1 l) (h2 : IsFlds w v2 m) (n1 : ∀ n c, v1 = .slice none n c → c = 0) (n2 : ∀ n c, v2 = .slice none n c → c = 0)
    (z1 : ∀ f ∈ l, f.1.length ≤ 140737488351232 ∧ f.2.length ≤ 140737488351232) (z2 : ∀ f ∈ m, f.1.length ≤ 140737488351232 ∧ f.2.length ≤ 140737488351232) (hl : l.length ≤ 140737488351232) (hm : m.length ≤ 140737488351232) :
    Calls Tryd.prog 3 #[v1, v2] w (Yes2 w) := by
  cases hb : lightF l
  · exact joins_big v1 v2 l m w h1 h2 z1 z2 hl hm (.inl hb)
  · cases hb2 : lightF m
    · exact joins_big v1 v2 l m w h1 h2 z1 z2 hl hm (.inr ⟨hb, hb2⟩)
    · exact joins_main v1 v2 l m w h1 h2 n1 n2 z1 z2 hl hm hb hb2
end Tk
end Go.Proofs.YtogdmhgblceddabDoor
