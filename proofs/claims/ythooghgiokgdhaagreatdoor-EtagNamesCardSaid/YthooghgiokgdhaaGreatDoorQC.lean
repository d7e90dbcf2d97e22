/- EtT Bx0 EtA Sam FldS Str, put together. -/
import Derived.Test.YthooghgiokgdhaaGreatDoorQB
import Derived.Laws.AppendOwnNone
import Derived.Laws.OwnMore
import Derived.BigFrame
import Derived.Test.YthooghgiokgdhaaGreatDoorQA
import Derived.Lib.OwnBridge
namespace Go.Proofs.YthooghgiokgdhaaGreatDoor
open Go.RowKit
namespace Tk

/-- the value of a tag -/
def tgVal (t : Tg) : Value := .agg #[.bool t.1, .string (mkS t.2)]
/-- a slice that holds these tags -/
def IsTgs (w : World) (v : Value) (l : List Tg) : Prop :=
  ∃ (a : Option Addr) (c : Nat), v = .slice a l.length c ∧ l.length ≤ c ∧ ∀ j f, l[j]? = some f → ∃ b o, a = some ⟨b, o, none⟩ ∧ w.cell? ⟨b, o + j * 2, none⟩ = some (.bool f.1) ∧ w.cell? ⟨b, o + j * 2 + 1, none⟩ = some (.string (mkS f.2))
theorem isTgs_below {w w' : World} {v : Value} {l : List Tg} (h : IsTgs w v l) (hb : Below w.heap.size w w') : IsTgs w' v l := by
  obtain ⟨a, c, rfl, hl, hc⟩ := h
  refine ⟨a, c, rfl, hl, fun j t hj => ?_⟩
  obtain ⟨b, o, rfl, h1, h2⟩ := hc j t hj
  exact ⟨b, o, rfl, (hb.cell (p := ⟨b, o + j * 2, none⟩) (cell_lt (p := ⟨b, o + j * 2, none⟩) h1)).trans h1, (hb.cell (p := ⟨b, o + j * 2 + 1, none⟩) (cell_lt (p := ⟨b, o + j * 2 + 1, none⟩) h2)).trans h2⟩
def tcells (l : List Tg) : List Value := l.flatMap fun f => [.bool f.1, .string (mkS f.2)]
theorem tcells_len : ∀ l, (tcells l).length = l.length * 2
  | [] => rfl
  | f :: t => by
    have := tcells_len t
    unfold tcells at *
    rw [List.flatMap_cons, List.length_append, this]; simp; omega
theorem tcells_app (a b : List Tg) : tcells (a ++ b) = tcells a ++ tcells b := by simp [tcells]
theorem tcells_at : ∀ (l : List Tg) (j : Nat) (u : Value), (tcells l)[j]? = some u → ∃ i f, l[i]? = some f ∧ ((j = i * 2 ∧ u = .bool f.1) ∨ (j = i * 2 + 1 ∧ u = .string (mkS f.2)))
  | [], j, u, h => by simp [tcells] at h
  | f :: t, 0, u, h => by
    simp [tcells] at h
    exact ⟨0, f, rfl, .inl ⟨rfl, h.symm⟩⟩
  | f :: t, 1, u, h => by
    simp [tcells] at h
    exact ⟨0, f, rfl, .inr ⟨rfl, h.symm⟩⟩
  | f :: t, j + 2, u, h => by
    have h2 : (tcells t)[j]? = some u := by
      unfold tcells at *
      rw [List.flatMap_cons] at h
      simpa using h
    obtain ⟨i, g, hg, hj⟩ := tcells_at t j u h2
    refine ⟨i + 1, g, by simpa using hg, ?_⟩
    rcases hj with ⟨hj, hu⟩ | ⟨hj, hu⟩
    · exact .inl ⟨by omega, hu⟩
    · exact .inr ⟨by omega, hu⟩
theorem tcells_get : ∀ (l : List Tg) (j : Nat) (f : Tg), l[j]? = some f → (tcells l)[j * 2]? = some (.bool f.1) ∧ (tcells l)[j * 2 + 1]? = some (.string (mkS f.2))
  | [], j, f, h => by simp at h
  | g :: t, 0, f, h => by
    simp at h; subst h
    exact ⟨by simp [tcells], by simp [tcells]⟩
  | g :: t, j + 1, f, h => by
    have := tcells_get t j f (by simpa using h)
    unfold tcells at *
    rw [List.flatMap_cons, show (j + 1) * 2 = j * 2 + 2 by omega]
    constructor
    · simpa using this.1
    · simpa using this.2
theorem tcells_one (l : List Tg) : ∀ u ∈ tcells l, u.oneCell' = true := by
  intro u hu
  unfold tcells at hu
  rw [List.mem_flatMap] at hu
  obtain ⟨f, -, hf⟩ := hu
  simp at hf
  rcases hf with rfl | rfl <;> rfl

theorem tgInfo : (Tryz.prog.info? 81).map (fun i => (i.zero, i.size, i.bytes)) = some (some (.agg #[.bool false, .string .empty]), 2, 24) := by kernel_rfl

theorem below_of_grownT {a b : World} {B : Nat} {v : Value} {n : Nat} {xs : List Value} {e : TypeId} (h : a.grownBy b v.ownBlock) (ho : a.ownsRow B e 2 v n xs) (hB : B ≤ a.heap.size) : Below B a b :=
  (Below.refl B a).grown h hB fun k hk => (ho.lt k hk).1

set_option maxRecDepth 100000 in
theorem joinT_run (w : World) (o : Oper) (a : Act) (K : Act → World → Prop) (Q : Exit → Act → World → Prop) (s x : Operand)
    (ho : o.op = .call { callee := .builtin .append, args := #[s, x], argTypes := #[85, 85] })
    (base : Nat) (v v2 : Value) (P R : List Tg) (hs : a.eval s = v) (hx : a.eval x = v2) (h1 : w.ownsRow base 81 2 v P.length (tcells P)) (h2 : IsTgs w v2 R) (hnl : ∀ n c, v2 = .slice none n c → c = 0)
    (hB : base ≤ w.heap.size) (hP : P.length ≤ 1048576) (hR : R.length ≤ 1048576)
    (h : ∀ v' w', w'.ownsRow base 81 2 v' (P ++ R).length (tcells (P ++ R)) → w.grownBy w' v.ownBlock → K (a.put o.dst v') w') : o.wp Tryz.prog a w K Q := by
  obtain ⟨i0, hi, hz0, hz1, hz2⟩ := info_parts tgInfo
  obtain ⟨ad, cap, rfl, hcap, hc⟩ := h2
  rcases ad with _ | ad
  · have hR0 : R = [] := by
      cases R with
      | nil => rfl
      | cons f t => obtain ⟨b, o, e, -⟩ := hc 0 f rfl; cases e
    subst hR0
    have hcap0 := hnl _ _ rfl
    subst hcap0
    have hrun := run_append_owned_none (P := Tryz.prog) (w := w) base 85 o.type 81 i0 2 Tryz.underlying85 hi v P.length (tcells P) h1
    unfold Oper.wp
    simp only [List.length_nil] at hx
    simp [execOp, ho, resolve, invoke, builtin, hs, hx, hrun, Result.andThen]
    exact h v w (by simpa using h1) ⟨rfl, rfl, rfl, Nat.le_refl _, fun _ _ _ => rfl⟩
  · refine wp_append_own (P := Tryz.prog) w s x 85 ho base 81 i0 (.agg #[.bool false, .string .empty]) 2 24 Tryz.underlying85 hi hz0 hz1 hz2 rfl (by decide) v P.length (tcells P) hs h1 ad R.length cap (tcells R) hx (tcells_len R)
      (fun j u hj => ?_) (tcells_one R) (by unfold maxLen; omega) (by omega) hB ?_
    · obtain ⟨i, f, hf, hju⟩ := tcells_at R j u hj
      obtain ⟨b, o, e, g0, g1⟩ := hc i f hf
      injection e with e
      subst e
      rw [Go.WideShapes.add_plain]
      rcases hju with ⟨rfl, rfl⟩ | ⟨rfl, rfl⟩
      · exact g0
      · rw [← Nat.add_assoc]; exact g1
    · intro v' w' ho' hg' _
      refine h v' w' ?_ hg'
      rw [List.length_append, tcells_app]
      exact ho'

theorem joinT_guarded {ops : Array Oper} {rest : List Oper} {w : World} {o : Oper} {a : Act} {Q : Exit → Act → World → Prop} (hw : Region.wanted o (yielded ops a.tmps) = true) (s x : Operand)
    (ho : o.op = .call { callee := .builtin .append, args := #[s, x], argTypes := #[85, 85] })
    (base : Nat) (v v2 : Value) (P R : List Tg) (hs : a.eval s = v) (hx : a.eval x = v2) (h1 : w.ownsRow base 81 2 v P.length (tcells P)) (h2 : IsTgs w v2 R) (hnl : ∀ n c, v2 = .slice none n c → c = 0)
    (hB : base ≤ w.heap.size) (hP : P.length ≤ 1048576) (hR : R.length ≤ 1048576)
    (h : ∀ v' w', w'.ownsRow base 81 2 v' (P ++ R).length (tcells (P ++ R)) → w.grownBy w' v.ownBlock → wpList Tryz.prog ops Q rest (a.put o.dst v') w') : wpList Tryz.prog ops Q (o :: rest) a w :=
  BigFrame.wpList_want hw fun K hK => joinT_run w o a K Q s x ho base v v2 P R hs hx h1 h2 hnl hB hP hR fun v' w' a b => hK _ _ (h v' w' a b)

theorem isTgs_own {w : World} {base : Nat} {v : Value} {l : List Tg} (h : w.ownsRow base 81 2 v l.length (tcells l)) : IsTgs w v l := by
  rcases h.2 with ⟨hv, hn⟩ | ⟨g, cap, cur, hv, hb, hg, hcap, -⟩
  · exact ⟨none, 0, by rw [hv, hn], by omega, fun j t hj => by simp [List.eq_nil_of_length_eq_zero hn] at hj⟩
  · refine ⟨some ⟨g, 0, none⟩, cap, hv, hcap, fun j f hj => ⟨g, 0, rfl, ?_, ?_⟩⟩
    · have := h.cells (g := g) (by rw [hv]; rfl) (j * 2) (.bool f.1) (tcells_get l j f hj).1
      rw [Go.WideShapes.add_plain] at this
      exact this
    · have := h.cells (g := g) (by rw [hv]; rfl) (j * 2 + 1) (.string (mkS f.2)) (tcells_get l j f hj).2
      rw [Go.WideShapes.add_plain, ← Nat.add_assoc] at this
      exact this

end Tk
end Go.Proofs.YthooghgiokgdhaaGreatDoor
namespace Go.Proofs.YthooghgiokgdhaaGreatDoor
open Go.RowKit
namespace Tk

/-- block g is a variable with these cells -/
def Bx (w : World) (g : Nat) (T : TypeId) (cs : Array Value) : Prop := w.heap[g]? = some (.cells cs T (0, 0))
theorem Bx.new (w : World) (T : TypeId) (cs : Array Value) : Bx (w.alloc (.cells cs T)) w.heap.size T cs := heap_alloc_last w _
theorem Bx.lt {w : World} {g : Nat} {T : TypeId} {cs : Array Value} (h : Bx w g T cs) : g < w.heap.size := (Array.getElem?_eq_some_iff.1 h).1
theorem Bx.later {w w' : World} {g : Nat} {T : TypeId} {cs : Array Value} (h : Bx w g T cs) (hb : Below w.heap.size w w') : Bx w' g T cs := (hb.block g h.lt).trans h
theorem Bx.cell {w : World} {g : Nat} {T : TypeId} {cs : Array Value} (h : Bx w g T cs) (i : Nat) (v : Value) (hv : cs[i]? = some v) : w.cell? ⟨g, i, none⟩ = some v := by rw [Lib.cell_of_heap h]; exact hv
theorem Bx.frozen {w : World} {g : Nat} {T : TypeId} {cs : Array Value} (h : Bx w g T cs) (i : Nat) : w.frozen? ⟨g, i, none⟩ = false := Lib.frozen_of_heap h i
theorem Bx.set {w : World} {g : Nat} {T : TypeId} {cs : Array Value} (h : Bx w g T cs) (i : Nat) (v : Value) : Bx (w.setCell ⟨g, i, none⟩ v) g T (cs.setIfInBounds i v) := heap_setCell_same w g i cs T v h
theorem Bx.grown {w w' : World} {g : Nat} {T : TypeId} {cs : Array Value} {r : Option Nat} (h : Bx w g T cs) (hg : w.grownBy w' r) (hr : some g ≠ r) : Bx w' g T cs := (hg.block g h.lt hr).trans h
theorem grown_setC (w : World) (g i : Nat) (v : Value) : w.grownBy (w.setCell ⟨g, i, none⟩ v) (some g) :=
  ⟨rfl, rfl, rfl, by rw [World.size_setCell]; exact Nat.le_refl _, fun k _ hne => heap_setCell_other w ⟨g, i, none⟩ k v (fun e => hne (by rw [e]))⟩
theorem grownC_trans {a b c : World} {r : Option Nat} (h : a.grownBy b r) (k : b.grownBy c r) : a.grownBy c r :=
  ⟨k.os.trans h.os, k.tape.trans h.tape, k.output.trans h.output, Nat.le_trans h.size k.size, fun i hi hne => (k.block i (Nat.lt_of_lt_of_le hi h.size) hne).trans (h.block i hi hne)⟩
theorem grownC_refl (a : World) (r : Option Nat) : a.grownBy a r := ⟨rfl, rfl, rfl, Nat.le_refl _, fun _ _ _ => rfl⟩
theorem grownC_below {w w' : World} (h : Below w.heap.size w w') (r : Option Nat) : w.grownBy w' r := ⟨h.os, h.tape, h.output, h.size, fun k hk _ => h.block k hk⟩

end Tk
end Go.Proofs.YthooghgiokgdhaaGreatDoor
namespace Go.Proofs.YthooghgiokgdhaaGreatDoor
open Go.RowKit
namespace Tk

theorem opq_step (l : Bs) (i : Nat) (hi : i < l.length) (h : opq (l.take i) = true) : opq (l.take (i + 1)) = vch (l.getD i 0) := by
  have e : l.take (i + 1) = l.take i ++ [l.getD i 0] := take_snoc l i hi
  unfold opq at *
  rw [e, List.all_append, h]; simp
theorem opq_bad (l : Bs) (i : Nat) (hi : i < l.length) (h : vch (l.getD i 0) = false) : opq l = false := by
  unfold opq
  rw [List.all_eq_false]
  refine ⟨l[i], List.getElem_mem hi, ?_⟩
  simp [List.getD, hi] at h
  simp [h]

set_option maxHeartbeats 1000000 in
set_option maxRecDepth 100000 in
theorem opaque_any (s : ByteArray) (w : World) (hs : s.size ≤ 140737488355000) :
    Calls Tryz.prog 103 #[.string s] w fun e w' => e = .returned (.bool (opq (bs s))) ∧ w = w' := by
  have HL := Lib.hid (length_bs s)
  have HBad := Lib.hid (fun i hi h => opq_bad (bs s) i hi h)
  have HSt := Lib.hid (fun i hi h => opq_step (bs s) i hi h)
  have H0 : Hid (opq ((bs s).take 0) = true) := rfl
  have HEnd : Hid (opq ((bs s).take s.size) = opq (bs s)) := by
    show _ = _
    rw [List.take_of_length_le (by rw [length_bs]; exact Nat.le_refl _)]
  have HG := Lib.hid (fun i (hi : i < s.size) => getD_bs s i hi)
  generalize opq (bs s) = q at *
  go_enter Tryz.func103, Tryz.ntmps103
  go_wp2_with fail
  go_loop [4, 7] (fun _ vi => ∃ i : Nat, i ≤ s.size ∧ vi = .int .i64 i ∧ Hid (opq ((bs s).take i) = true)) (fun _ vi => s.size - (RowKit.intOf vi).toNat)
  case atStart => exact ⟨0, Nat.zero_le _, rfl, H0⟩
  case round =>
    obtain ⟨i, hi, rfl, HA⟩ := hrel
    by_cases hlt : i < s.size
    · have hgd := HG.out i hlt
      have hst := HSt.out i (by rw [HL.out]; exact hlt) HA.out
      have hbd := HBad.out i (by rw [HL.out]; exact hlt)
      rw [hgd] at hst hbd
      have hv : vch s[i] = !(decide ((s[i].toNat : Int) ≤ 32) || ((s[i].toNat : Int) == 34 || (s[i].toNat : Int) == 127)) := rfl
      have HSt2 := Lib.hid hst
      have HBd2 := Lib.hid hbd
      clear hgd hst hbd
      by_cases h1 : (s[i].toNat : Int) ≤ 32
      · have b1 : decide ((s[i].toNat : Int) ≤ 32) = true := decide_eq_true h1
        have HQ := Lib.hid (HBd2.out (by rw [hv, b1]; rfl))
        clear hv
        go_wp2_with fail
        go_ret
        exact ⟨by rw [HQ.out]; rfl, rfl⟩
      · have b1 : decide ((s[i].toNat : Int) ≤ 32) = false := decide_eq_false h1
        cases b2 : ((s[i].toNat : Int) == 34)
        · cases b3 : ((s[i].toNat : Int) == 127)
          · have HQ := Lib.hid (HSt2.out.trans (show vch s[i] = true by rw [hv, b1, b2, b3]; rfl))
            clear hv
            go_wp2_with fail
            exact ⟨⟨i + 1, hlt, by go_num, HQ⟩, by simp [RowKit.intOf]; omega⟩
          · have HQ := Lib.hid (HBd2.out (by rw [hv, b1, b2, b3]; rfl))
            clear hv
            go_wp2_with fail
            go_ret
            exact ⟨by rw [HQ.out]; rfl, rfl⟩
        · have HQ := Lib.hid (HBd2.out (by rw [hv, b1, b2]; rfl))
          clear hv
          go_wp2_with fail
          go_ret
          exact ⟨by rw [HQ.out]; rfl, rfl⟩
    · obtain rfl : i = s.size := by omega
      have HQ := Lib.hid (HEnd.out.symm.trans HA.out)
      go_wp2_with fail
      go_ret
      exact ⟨by rw [HQ.out]; rfl, rfl⟩

/-- what Parse returns -/
def TgPost (s : Bs) (w : World) (e : Ending) (w' : World) : Prop := e = .returned (.tuple #[tgVal (tgG s), .int .i64 (tgE s)]) ∧ Below w.heap.size w w'

theorem tgRet {g : Tg} {a : Bool} {v : Bs} {e n : Int} (h1 : g = (a, v)) (h2 : e = n) : Ending.returned (.tuple #[.agg #[.bool a, .string (mkS v)], .int .i64 n]) = .returned (.tuple #[tgVal g, .int .i64 e]) := by
  subst h1 h2; rfl

set_option maxHeartbeats 4000000 in
set_option maxRecDepth 100000 in
theorem tparse_any (s : ByteArray) (w : World) (hs : s.size ≤ 1099511627776) :
    Calls Tryz.prog 47 #[.string s] w (TgPost (bs s) w) := by
  have H1 : Hid (∀ W : World, Calls Tryz.prog 101 #[.string s, .string ⟨#[87, 47]⟩] W fun e w' => e = .returned (.tuple #[.string (mkS (tgQ (bs s))), .bool (tgW (bs s))]) ∧ W = w') := fun W =>
    (Tryz.strings_CutPrefix s ⟨#[87, 47]⟩ W).mono fun e w' ⟨he, hw⟩ => ⟨he.trans (by rw [show (⟨#[87, 47]⟩ : ByteArray).data.toList = [87, 47] from rfl, (pre2_tag _).1, (pre2_tag _).2]; rfl), hw.symm⟩
  have H2 : Hid (∀ W : World, Calls Tryz.prog 101 #[.string (mkS (tgQ (bs s))), .string ⟨#[34]⟩] W fun e w' => e = .returned (.tuple #[.string (mkS (cp1 (tgQ (bs s)))), .bool (op1 (tgQ (bs s)))]) ∧ W = w') := fun W =>
    (Tryz.strings_CutPrefix (mkS (tgQ (bs s))) ⟨#[34]⟩ W).mono fun e w' ⟨he, hw⟩ => ⟨he.trans (by rw [show (⟨#[34]⟩ : ByteArray).data.toList = [34] from rfl, (pre1_tag _).1, (pre1_tag _).2]; rfl), hw.symm⟩
  have l1 := cp1_len (bs s)
  have l2 := cs1_len (bs s)
  rw [length_bs] at l1 l2
  have H3 : Hid (∀ W : World, Calls Tryz.prog 102 #[.string (mkS (cp1 (tgQ (bs s)))), .string ⟨#[34]⟩] W fun e w' => e = .returned (.tuple #[.string (mkS (cs1 (cp1 (tgQ (bs s))))), .bool (tgC (cp1 (tgQ (bs s))))]) ∧ W = w') := fun W =>
    (Tryz.strings_CutSuffix (mkS (cp1 (tgQ (bs s)))) ⟨#[34]⟩ W (by rw [size_mkS]; omega)).mono fun e w' ⟨he, hw⟩ => ⟨he.trans (by rw [show (⟨#[34]⟩ : ByteArray).data.toList = [34] from rfl, (suf1_tag _).1, (suf1_tag _).2]; rfl), hw.symm⟩
  have H4 := Lib.hid (fun W : World => opaque_any (mkS (cs1 (cp1 (tgQ (bs s))))) W (by rw [size_mkS]; omega))
  rw [bs_mkS] at H4
  have H5 := Lib.hid (fun W : World => clone_any (mkS (cs1 (cp1 (tgQ (bs s))))) W (by rw [size_mkS]; omega))
  unfold StrPost at H5
  rw [bs_mkS] at H5
  have HYes := Lib.hid (tg_yes (bs s))
  have HNo := Lib.hid (fun h => tg_no (bs s) h)
  have HN1 := Lib.hid (tg_no1 (bs s))
  have HN2 := Lib.hid (tg_no2 (bs s))
  have HN3 := Lib.hid (tg_no3 (bs s))
  have hB := Two.new w 81 (.bool false) (.string ⟨#[]⟩)
  have hbl : Below w.heap.size w (w.alloc (.cells #[.bool false, .string ⟨#[]⟩] 81)) := (Below.refl _ _).alloc (Nat.le_refl _) _
  have hsz : w.heap.size ≤ (w.alloc (.cells #[.bool false, .string ⟨#[]⟩] 81)).heap.size := by simp
  have HB := Lib.hid hB
  have HBl := Lib.hid hbl
  clear hB hbl
  unfold TgPost
  generalize tgG (bs s) = G at *
  generalize tgE (bs s) = E at *
  generalize tgO (bs s) = O at *
  generalize tgC (cp1 (tgQ (bs s))) = C at *
  generalize cs1 (cp1 (tgQ (bs s))) = V at *
  generalize op1 (tgQ (bs s)) = P at *
  generalize cp1 (tgQ (bs s)) = R at *
  generalize tgQ (bs s) = Q at *
  generalize tgW (bs s) = K at *
  generalize opq V = X at *
  clear l1 l2
  have bad : ∀ (h : O = false), (∀ W : World, Below w.heap.size w W → True) → G = (false, []) ∧ E = 4 := fun h _ => HNo.out h
  have HBad := Lib.hid bad
  clear bad
  cases P
  · have HG := Lib.hid (HNo.out (HN1.out rfl))
    clear HYes HN1 HN2 HN3 HNo HBad
    go_enter Tryz.func47, Tryz.ntmps47
    go_wp2_with fail
    refine (H1.out _).mono ?_
    rintro e w1 ⟨rfl, rfl⟩
    go_wp2_with fail
    refine (H2.out _).mono ?_
    rintro e w1 ⟨rfl, rfl⟩
    go_wp2_with fail
    refine (H3.out _).mono ?_
    rintro e w1 ⟨rfl, rfl⟩
    generalize w.alloc (.cells #[.bool false, .string ⟨#[]⟩] 81) = W at *
    have c0 := HB.out.c0
    have c1 := HB.out.c1
    have f0 := HB.out.f0
    have f1 := HB.out.f1
    have hput := HB.out.put (.bool false) (.string ⟨#[]⟩)
    have q0 := hput.1
    have q1 := hput.2
    clear hput
    go_wp2_with fail
    refine bodyPost_ret (v := .tuple #[.agg #[.bool false, .string (mkS [])], .int .i64 4]) ?_ rfl ⟨tgRet HG.out.1 HG.out.2, ?_⟩
    · simp [results, Tryz.results47, go_sem, q0, q1]; rfl
    · exact (HBl.out.setCell (p := ⟨w.heap.size, 0, none⟩) (Nat.le_refl _) _).setCell (p := ⟨w.heap.size, 1, none⟩) (Nat.le_refl _) _
  · cases C
    · have HG := Lib.hid (HNo.out (HN2.out rfl rfl))
      clear HYes HN1 HN2 HN3 HNo HBad
      go_enter Tryz.func47, Tryz.ntmps47
      go_wp2_with fail
      refine (H1.out _).mono ?_
      rintro e w1 ⟨rfl, rfl⟩
      go_wp2_with fail
      refine (H2.out _).mono ?_
      rintro e w1 ⟨rfl, rfl⟩
      go_wp2_with fail
      refine (H3.out _).mono ?_
      rintro e w1 ⟨rfl, rfl⟩
      generalize w.alloc (.cells #[.bool false, .string ⟨#[]⟩] 81) = W at *
      have c0 := HB.out.c0
      have c1 := HB.out.c1
      have f0 := HB.out.f0
      have f1 := HB.out.f1
      have hput := HB.out.put (.bool false) (.string ⟨#[]⟩)
      have q0 := hput.1
      have q1 := hput.2
      clear hput
      go_wp2_with fail
      refine bodyPost_ret (v := .tuple #[.agg #[.bool false, .string (mkS [])], .int .i64 4]) ?_ rfl ⟨tgRet HG.out.1 HG.out.2, ?_⟩
      · simp [results, Tryz.results47, go_sem, q0, q1]; rfl
      · exact (HBl.out.setCell (p := ⟨w.heap.size, 0, none⟩) (Nat.le_refl _) _).setCell (p := ⟨w.heap.size, 1, none⟩) (Nat.le_refl _) _
    · cases X
      · have HG := Lib.hid (HNo.out (HN3.out rfl rfl rfl))
        clear HYes HN1 HN2 HN3 HNo HBad
        go_enter Tryz.func47, Tryz.ntmps47
        go_wp2_with fail
        refine (H1.out _).mono ?_
        rintro e w1 ⟨rfl, rfl⟩
        go_wp2_with fail
        refine (H2.out _).mono ?_
        rintro e w1 ⟨rfl, rfl⟩
        go_wp2_with fail
        refine (H3.out _).mono ?_
        rintro e w1 ⟨rfl, rfl⟩
        generalize w.alloc (.cells #[.bool false, .string ⟨#[]⟩] 81) = W at *
        go_wp2_with fail
        refine (H4.out _).mono ?_
        rintro e w1 ⟨rfl, rfl⟩
        have c0 := HB.out.c0
        have c1 := HB.out.c1
        have f0 := HB.out.f0
        have f1 := HB.out.f1
        have hput := HB.out.put (.bool false) (.string ⟨#[]⟩)
        have q0 := hput.1
        have q1 := hput.2
        clear hput
        go_wp2_with fail
        refine bodyPost_ret (v := .tuple #[.agg #[.bool false, .string (mkS [])], .int .i64 4]) ?_ rfl ⟨tgRet HG.out.1 HG.out.2, ?_⟩
        · simp [results, Tryz.results47, go_sem, q0, q1]; rfl
        · exact (HBl.out.setCell (p := ⟨w.heap.size, 0, none⟩) (Nat.le_refl _) _).setCell (p := ⟨w.heap.size, 1, none⟩) (Nat.le_refl _) _
      · have HG := Lib.hid (HYes.out rfl rfl rfl)
        clear HYes HN1 HN2 HN3 HNo HBad
        go_enter Tryz.func47, Tryz.ntmps47
        go_wp2_with fail
        refine (H1.out _).mono ?_
        rintro e w1 ⟨rfl, rfl⟩
        go_wp2_with fail
        refine (H2.out _).mono ?_
        rintro e w1 ⟨rfl, rfl⟩
        go_wp2_with fail
        refine (H3.out _).mono ?_
        rintro e w1 ⟨rfl, rfl⟩
        generalize w.alloc (.cells #[.bool false, .string ⟨#[]⟩] 81) = W at *
        go_wp2_with fail
        refine (H4.out _).mono ?_
        rintro e w1 ⟨rfl, rfl⟩
        go_wp2_with fail
        refine (H5.out _).mono ?_
        rintro e w2 ⟨rfl, hb⟩
        have HB2 := Lib.hid (HB.out.later hb)
        have HBl2 := Lib.hid (HBl.out.trans (hb.mono hsz))
        clear hb
        have c0 := HB2.out.c0
        have c1 := HB2.out.c1
        have f0 := HB2.out.f0
        have f1 := HB2.out.f1
        have hput := HB2.out.put (.bool K) (.string (mkS V))
        have q0 := hput.1
        have q1 := hput.2
        clear hput
        go_wp2_with fail
        refine bodyPost_ret (v := .tuple #[.agg #[.bool K, .string (mkS V)], .int .i64 0]) ?_ rfl ⟨tgRet HG.out.2.1 HG.out.2.2, ?_⟩
        · simp [results, Tryz.results47, go_sem, q0, q1]
        · exact (HBl2.out.setCell (p := ⟨w.heap.size, 0, none⟩) (Nat.le_refl _) _).setCell (p := ⟨w.heap.size, 1, none⟩) (Nat.le_refl _) _

theorem txRet {x y : ByteArray} {a b : Int} (h1 : x = y) (h2 : a = b) : Ending.returned (.tuple #[.string x, .int .i64 a]) = .returned (.tuple #[.string y, .int .i64 b]) := by
  subst h1 h2; rfl
theorem lit34 : (⟨#[34]⟩ : ByteArray) = mkS [34] := rfl
theorem lit8747 : (⟨#[87, 47]⟩ : ByteArray) = mkS [87, 47] := rfl

set_option maxHeartbeats 4000000 in
set_option maxRecDepth 100000 in
theorem ttext_any (t : Tg) (w : World) (hs : t.2.length ≤ 140737488351232) :
    Calls Tryz.prog 48 #[tgVal t] w fun e w' => e = .returned (.tuple #[.string (mkS (tgT t)), .int .i64 (tgTE t)]) ∧ Below w.heap.size w w' := by
  obtain ⟨k, v⟩ := t
  have H4 := Lib.hid (fun W : World => opaque_any (mkS v) W (by rw [size_mkS]; simp only at hs; omega))
  rw [bs_mkS] at H4
  have hz := size_mkS v
  simp only at hs
  have hT : tgT (k, v) = if opq v then (if k then [87, 47] else []) ++ ([34] ++ v ++ [34]) else [] := rfl
  have hE : tgTE (k, v) = if opq v then 0 else 4 := rfl
  have HT := Lib.hid hT
  have HE := Lib.hid hE
  have HB := Lib.hid (Two.new w 81 (.bool k) (.string (mkS v)))
  have HBl := Lib.hid (show Below w.heap.size w (w.alloc (.cells #[.bool k, .string (mkS v)] 81)) from (Below.refl _ _).alloc (Nat.le_refl _) _)
  clear hT hE
  unfold tgVal
  generalize tgT (k, v) = T at *
  generalize tgTE (k, v) = E at *
  simp only
  generalize hX : opq v = X at *
  clear hX
  have c0 := HB.out.c0
  have c1 := HB.out.c1
  cases X
  · go_enter Tryz.func48, Tryz.ntmps48
    go_wp2_with fail
    generalize w.alloc (.cells #[.bool k, .string (mkS v)] 81) = W at *
    refine (H4.out _).mono ?_
    rintro e w1 ⟨rfl, rfl⟩
    go_wp2_with fail
    go_ret2
    exact ⟨txRet (by rw [HT.out]; rfl) (by rw [HE.out]; rfl), HBl.out⟩
  · cases k
    · go_enter Tryz.func48, Tryz.ntmps48
      go_wp2_with fail
      generalize w.alloc (.cells #[.bool false, .string (mkS v)] 81) = W at *
      refine (H4.out _).mono ?_
      rintro e w1 ⟨rfl, rfl⟩
      go_wp2_with fail
      go_ret2
      exact ⟨txRet (by rw [HT.out, lit34, mkS_append, mkS_append]; rfl) (by rw [HE.out]; rfl), HBl.out⟩
    · go_enter Tryz.func48, Tryz.ntmps48
      go_wp2_with fail
      generalize w.alloc (.cells #[.bool true, .string (mkS v)] 81) = W at *
      refine (H4.out _).mono ?_
      rintro e w1 ⟨rfl, rfl⟩
      go_wp2_with fail
      go_ret2
      exact ⟨txRet (by rw [HT.out, lit34, lit8747, mkS_append, mkS_append, mkS_append]; rfl) (by rw [HE.out]; rfl), HBl.out⟩

/-- strongly, weakly the same -/
def stB (a b : Tg) : Bool := decide (a = b) && !a.1
def wkB (a b : Tg) : Bool := decide (a.2 = b.2)

set_option maxHeartbeats 4000000 in
set_option maxRecDepth 100000 in
theorem strong_any (a b : Tg) (w : World) :
    Calls Tryz.prog 56 #[tgVal a, tgVal b] w fun e w' => e = .returned (.bool (stB a b)) ∧ Below w.heap.size w w' := by
  obtain ⟨k, v⟩ := a
  obtain ⟨m, u⟩ := b
  have hA := Two.new w 81 (.bool k) (.string (mkS v))
  have hbA : Below w.heap.size w (w.alloc (.cells #[.bool k, .string (mkS v)] 81)) := (Below.refl _ _).alloc (Nat.le_refl _) _
  have hB := Two.new (w.alloc (.cells #[.bool k, .string (mkS v)] 81)) 81 (.bool m) (.string (mkS u))
  have hbB : Below (w.alloc (.cells #[.bool k, .string (mkS v)] 81)).heap.size (w.alloc (.cells #[.bool k, .string (mkS v)] 81)) ((w.alloc (.cells #[.bool k, .string (mkS v)] 81)).alloc (.cells #[.bool m, .string (mkS u)] 81)) := (Below.refl _ _).alloc (Nat.le_refl _) _
  have a0 := (hA.later hbB).c0
  have a1 := (hA.later hbB).c1
  have b0 := hB.c0
  have b1 := hB.c1
  have HBl := Lib.hid (hbA.trans (hbB.mono (by simp)))
  have hz : (w.alloc (.cells #[.bool k, .string (mkS v)] 81)).heap.size = w.heap.size + 1 := by simp
  rw [hz] at b0 b1
  have hv : stB (k, v) (m, u) = (decide ((k, v) = (m, u)) && !k) := rfl
  have HV := Lib.hid hv
  clear hA hbA hB hbB hz hv
  unfold tgVal
  generalize stB (k, v) (m, u) = q at *
  by_cases hk : k = m
  · by_cases hv : v = u
    · have HQ : Hid (q = !k) := by show _ = _; rw [HV.out, hk, hv]; simp
      clear HV
      subst hk hv
      go_enter Tryz.func56, Tryz.ntmps56
      go_wp2_with fail
      go_ret
      exact ⟨by rw [HQ.out]; rfl, HBl.out⟩
    · have hne : ¬ (mkS v).toList = (mkS u).toList := by rw [toList_bs, toList_bs, bs_mkS, bs_mkS]; exact hv
      have HQ : Hid (q = false) := by show _ = _; rw [HV.out, decide_eq_false (fun e => hv (by injection e))]; rfl
      clear HV hv
      subst hk
      go_enter Tryz.func56, Tryz.ntmps56
      go_wp2_with fail
      go_ret
      exact ⟨by rw [HQ.out]; rfl, HBl.out⟩
  · have HQ : Hid (q = false) := by show _ = _; rw [HV.out, decide_eq_false (fun e => hk (by injection e))]; rfl
    clear HV
    go_enter Tryz.func56, Tryz.ntmps56
    go_wp2_with fail
    go_ret
    exact ⟨by rw [HQ.out]; rfl, HBl.out⟩

set_option maxHeartbeats 4000000 in
set_option maxRecDepth 100000 in
theorem weak_any (a b : Tg) (w : World) :
    Calls Tryz.prog 57 #[tgVal a, tgVal b] w fun e w' => e = .returned (.bool (wkB a b)) ∧ Below w.heap.size w w' := by
  obtain ⟨k, v⟩ := a
  obtain ⟨m, u⟩ := b
  have hA := Two.new w 81 (.bool k) (.string (mkS v))
  have hbA : Below w.heap.size w (w.alloc (.cells #[.bool k, .string (mkS v)] 81)) := (Below.refl _ _).alloc (Nat.le_refl _) _
  have hB := Two.new (w.alloc (.cells #[.bool k, .string (mkS v)] 81)) 81 (.bool m) (.string (mkS u))
  have hbB : Below (w.alloc (.cells #[.bool k, .string (mkS v)] 81)).heap.size (w.alloc (.cells #[.bool k, .string (mkS v)] 81)) ((w.alloc (.cells #[.bool k, .string (mkS v)] 81)).alloc (.cells #[.bool m, .string (mkS u)] 81)) := (Below.refl _ _).alloc (Nat.le_refl _) _
  have hA2 := hA.later hbB
  have a0 := hA2.c0
  have a1 := hA2.c1
  have f0 := hA2.f0
  have b0 := hB.c0
  have b1 := hB.c1
  have HBl : Hid (∀ x y x' y' : Value, Below w.heap.size w ((w.alloc (.cells #[x, y] 81)).alloc (.cells #[x', y'] 81))) := fun x y x' y' => ((Below.refl _ _).alloc (Nat.le_refl _) _).alloc (by simp) _
  have hz : (w.alloc (.cells #[.bool k, .string (mkS v)] 81)).heap.size = w.heap.size + 1 := by simp
  rw [hz] at b0 b1
  have hv : wkB (k, v) (m, u) = decide (v = u) := rfl
  have HV := Lib.hid hv
  clear hA hA2 hbA hB hbB hz hv
  unfold tgVal
  generalize wkB (k, v) (m, u) = q at *
  by_cases hv : v = u
  · have HQ : Hid (q = true) := by show _ = _; rw [HV.out, hv]; simp
    clear HV
    subst hv
    go_enter Tryz.func57, Tryz.ntmps57
    go_wp2_with fail
    go_ret
    exact ⟨by rw [HQ.out]; rfl, HBl.out _ _ _ _⟩
  · have hne : ¬ (mkS v).toList = (mkS u).toList := by rw [toList_bs, toList_bs, bs_mkS, bs_mkS]; exact hv
    have HQ : Hid (q = false) := by show _ = _; rw [HV.out, decide_eq_false hv]
    clear HV hv
    go_enter Tryz.func57, Tryz.ntmps57
    go_wp2_with fail
    go_ret
    exact ⟨by rw [HQ.out]; rfl, HBl.out _ _ _ _⟩
end Tk
end Go.Proofs.YthooghgiokgdhaaGreatDoor
namespace Go.Proofs.YthooghgiokgdhaaGreatDoor
open Go.RowKit
namespace Tk

set_option maxHeartbeats 400000 in
theorem lower_any (c : UInt8) (w : World) :
    Calls Tryz.prog 183 #[.int .u8 (c.toNat : Int)] w fun r w' => r = .returned (.int .u8 ((lowB c).toNat : Int)) ∧ w = w' := by
  have hlt := c.toNat_lt
  by_cases h0 : 65 ≤ c.toNat
  · by_cases h1 : c.toNat ≤ 90
    · have HU := Lib.hid (lowB_up c h0 h1)
      generalize c.toNat = n at *
      go_enter Tryz.func183, Tryz.ntmps183
      go_wp2_with fail
      go_ret
      exact ⟨by rw [HU.out]; rfl, rfl⟩
    · have HU := Lib.hid (lowB_same c (by omega))
      go_enter Tryz.func183, Tryz.ntmps183
      go_wp2_with fail
      go_ret
      exact ⟨by rw [HU.out]; rfl, rfl⟩
  · have HU := Lib.hid (lowB_same c (by omega))
    go_enter Tryz.func183, Tryz.ntmps183
    go_wp2_with fail
    go_ret
    exact ⟨by rw [HU.out]; rfl, rfl⟩

set_option maxRecDepth 100000 in
set_option maxHeartbeats 1000000 in
theorem tsame_any (s t : ByteArray) (w : World) (hs : s.size ≤ 1099511627776) (_ht : t.size ≤ 1099511627776) :
    Calls Tryz.prog 180 #[.string s, .string t] w fun r w' => r = .returned (.bool (decide (lowL (bs s) = lowL (bs t)))) ∧ ∃ n, w' = w.drewN n := by
  have HL := Lib.hid (length_bs s)
  have HM := Lib.hid (length_bs t)
  by_cases hne : s.size = t.size
  · have hb : ((s.size : Int) != (t.size : Int)) = false := by rw [hne]; simp
    have HN := Lib.hid hne
    clear hne
    go_enter Tryz.func180, Tryz.ntmps180
    go_wp2_with fail
    go_loopw [13, 5] (fun v _ wr => ∃ (j : Nat), j ≤ s.size ∧ v = .int .i64 j ∧ Hid (∃ n, wr = w.drewN n) ∧ Hid (decide (lowL (bs s) = lowL (bs t)) = decide (lowL ((bs s).drop j) = lowL ((bs t).drop j)))) (fun v _ _ => s.size - (RowKit.intOf v).toNat)
    case atStart => exact ⟨0, Nat.zero_le _, rfl, ⟨0, rfl⟩, rfl⟩
    case round =>
      obtain ⟨j, hj, rfl, HW, hd⟩ := hrel
      rename World => W
      by_cases hlt : j < s.size
      · have hlt2 : j < t.size := by have := HN.out; omega
        have hdr := drop_cons (bs s) j (by rw [HL.out]; exact hlt)
        rw [getD_bs s j hlt] at hdr
        have hdr2 := drop_cons (bs t) j (by rw [HM.out]; exact hlt2)
        rw [getD_bs t j hlt2] at hdr2
        have HD := Lib.hid hdr
        have HD2 := Lib.hid hdr2
        clear hdr hdr2
        have hI : (j : Int) < (s.size : Int) := by omega
        have hI2 : (j : Int) < (t.size : Int) := by omega
        go_wp2_with fail
        go_quiet ((go_at_call 183; exact Calls.quiet_of_same ((lower_any _ _).mono fun _ _ h => ⟨h.1, h.2.symm⟩)))
        obtain ⟨n, hW⟩ := HW.out
        have HW2 : Hid (∃ m, W.drewN nq = w.drewN m) := ⟨n + nq, by rw [hW, World.drewN_drewN]⟩
        clear hW
        go_wp2_with fail
        · have hx : (((lowB s[j]).toNat : Int) != ((lowB t[j]).toNat : Int)) = true := by assumption
          have hne : lowB s[j] ≠ lowB t[j] := fun e => by rw [e] at hx; simp at hx
          have fin : decide (lowL (bs s) = lowL (bs t)) = false := by
            rw [hd.out, HD.out, HD2.out]; simp [lowL, hne]
          go_ret
          exact ⟨by rw [fin]; rfl, HW2.out⟩
        · have hx : (((lowB s[j]).toNat : Int) != ((lowB t[j]).toNat : Int)) = false := by assumption
          have he : lowB s[j] = lowB t[j] := UInt8.toNat_inj.1 (by rw [bne_eq_false_iff_eq] at hx; omega)
          refine ⟨⟨j + 1, by omega, by go_num, HW2, ?_⟩, by simp [RowKit.intOf]; omega⟩
          show _ = _
          rw [hd.out, HD.out, HD2.out]; simp [lowL, he]
      · have fin : decide (lowL (bs s) = lowL (bs t)) = true := by
          have := HN.out
          rw [hd.out, List.drop_eq_nil_of_le (by rw [HL.out]; omega), List.drop_eq_nil_of_le (by rw [HM.out]; omega)]; simp
        have HF := Lib.hid fin
        clear fin
        go_wp2_with fail
        go_ret
        exact ⟨by rw [HF.out]; rfl, HW.out⟩
  · have hb : ((s.size : Int) != (t.size : Int)) = true := by simp; omega
    have hf : decide (lowL (bs s) = lowL (bs t)) = false := by
      simp only [decide_eq_false_iff_not]
      intro e
      have := congrArg List.length e
      rw [length_lowL, length_lowL, length_bs, length_bs] at this
      exact hne this
    have HF := Lib.hid hf
    clear hf hne
    go_enter Tryz.func180, Tryz.ntmps180
    go_wp2_with fail
    go_ret
    exact ⟨by rw [HF.out]; rfl, 0, rfl⟩
end Tk
end Go.Proofs.YthooghgiokgdhaaGreatDoor
namespace Go.Proofs.YthooghgiokgdhaaGreatDoor
open Go.RowKit
namespace Tk

def eqF (f g : Bs × Bs) : Bool := decide (lowL f.1 = lowL g.1) && decide (f.2 = g.2)
def sameFs : List (Bs × Bs) → List (Bs × Bs) → Bool
  | [], [] => true
  | f :: t, g :: u => eqF f g && sameFs t u
  | _, _ => false

theorem below_some_draws {w w1 : World} (h : Below w.heap.size w w1) (n : Nat) : Below w.heap.size w (w1.drewN n) := h.trans ⟨rfl, rfl, rfl, Nat.le_refl _, fun _ _ => rfl⟩
theorem beq_mkS' (a b : Bs) : ((mkS a).toList == (mkS b).toList) = decide (a = b) := by
  rw [toList_bs, toList_bs, bs_mkS, bs_mkS]
  by_cases h : a = b <;> simp [h]

theorem sameFs_drop (l m : List (Bs × Bs)) (i : Nat) (hi : i < l.length) (hm : i < m.length) : sameFs (l.drop i) (m.drop i) = (eqF (l.getD i ([], [])) (m.getD i ([], [])) && sameFs (l.drop (i + 1)) (m.drop (i + 1))) := by
  rw [List.drop_eq_getElem_cons hi, List.drop_eq_getElem_cons hm, sameFs]
  simp [List.getD, hi, hm]
theorem sameFs_len : ∀ (l m : List (Bs × Bs)), sameFs l m = true → l.length = m.length
  | [], [], _ => rfl
  | f :: t, g :: u, h => by
    simp only [sameFs, Bool.and_eq_true] at h
    have := sameFs_len t u h.2
    simp [this]
  | [], _ :: _, h => by simp [sameFs] at h
  | _ :: _, [], h => by simp [sameFs] at h

end Tk
end Go.Proofs.YthooghgiokgdhaaGreatDoor
namespace Go.Proofs.YthooghgiokgdhaaGreatDoor
open Go.RowKit
namespace Tk

def strs (P : List Bs) : List Value := P.map fun t => .string (mkS t)
theorem strs_append (P Q : List Bs) : strs (P ++ Q) = strs P ++ strs Q := by simp [strs]
theorem strInfo : (Tryz.prog.info? 9).map (fun i => (i.zero, i.size, i.bytes)) = some (some (.string .empty), 1, 16) := by kernel_rfl

def ListPost (base : Nat) (Q : List Bs) (w : World) (r : Ending) (w' : World) : Prop :=
  ∃ v, r = .returned v ∧ w'.ownsRow base 9 1 v Q.length (strs Q) ∧ Below base w w'

theorem below_of_grown {a b : World} {B : Nat} {v : Value} {n : Nat} {xs : List Value} {e : TypeId} (h : a.grownBy b v.ownBlock) (ho : a.ownsRow B e 1 v n xs) (hB : B ≤ a.heap.size) : Below B a b :=
  (Below.refl B a).grown h hB fun k hk => (ho.lt k hk).1
end Tk
end Go.Proofs.YthooghgiokgdhaaGreatDoor
