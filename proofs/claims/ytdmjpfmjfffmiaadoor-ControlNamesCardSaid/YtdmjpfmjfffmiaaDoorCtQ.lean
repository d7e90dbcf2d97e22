/- Directives and controls: how long they are, what their names are, what one more does. -/
import Derived.Test.YtdmjpfmjfffmiaaDoorCtP
namespace Go.Proofs.YtdmjpfmjfffmiaaDoor
open Go.RowKit
namespace Tk

theorem dirOf_len (p : Bs) : (dirOf p).length ≤ 1 := by unfold dirOf; split <;> simp
theorem flatOf_len : ∀ P : List Bs, (P.flatMap dirOf).length ≤ P.length
  | [] => by simp
  | p :: t => by
    have h1 := dirOf_len p
    have h2 := flatOf_len t
    rw [List.flatMap_cons, List.length_append, List.length_cons]; omega
theorem dirsV_len (v : Bs) : (dirsV v).length ≤ v.length + 1 := Nat.le_trans (flatOf_len _) (split_len v)
theorem dirsL_len : ∀ l : List Bs, (dirsL l).length ≤ Lib.lens l + l.length
  | [] => by simp [dirsL]
  | v :: t => by
    have h1 := dirsV_len v
    have h2 := dirsL_len t
    have e : dirsL (v :: t) = dirsV v ++ dirsL t := rfl
    have e2 : Lib.lens (v :: t) = v.length + Lib.lens t := by simp [Lib.lens]
    rw [e, List.length_append, List.length_cons, e2]; omega
theorem cut_lens (c : UInt8) (l : Bs) : (cutL c l).1.length ≤ l.length ∧ (cutL c l).2.1.length ≤ l.length := by
  have hd : ∀ (p : UInt8 → Bool) (l : Bs), (l.dropWhile p).length ≤ l.length := by
    intro p l
    induction l with
    | nil => simp
    | cons a t ih => rw [List.dropWhile_cons]; split <;> simp at * <;> omega
  have ht : ∀ (p : UInt8 → Bool) (l : Bs), (l.takeWhile p).length ≤ l.length := by
    intro p l
    induction l with
    | nil => simp
    | cons a t ih => rw [List.takeWhile_cons]; split <;> simp at * <;> omega
  unfold cutL
  split
  · refine ⟨ht _ _, ?_⟩
    have := hd (· != c) l
    simp only [List.length_drop]
    omega
  · simp
theorem unq_len : ∀ l : Bs, (unq l).length ≤ l.length
  | [] => by simp [unq]
  | [_] => by simp [unq]
  | c :: d :: t => by
    have h1 := unq_len t
    have h2 := unq_len (d :: t)
    unfold unq
    split
    · simp at *; omega
    · rw [List.length_cons, List.length_cons]; omega
theorem unqT_len (t : Bs) : (unqT t).length ≤ t.length := by
  unfold unqT
  split
  · have := unq_len (t.drop 1); simp at this ⊢; omega
  · exact Nat.le_refl _
theorem dirOf_bound (p : Bs) (d : Dir) (h : d ∈ dirOf p) : d.1.length ≤ p.length ∧ d.2.1.length ≤ p.length := by
  unfold dirOf at h
  split at h
  · rw [List.mem_singleton] at h
    subst h
    have h1 := cut_lens 61 p
    have h2 := unqT_len (cutL 61 p).2.1
    simp only [length_lowL]
    omega
  · simp at h
theorem dirsV_bound (v : Bs) (d : Dir) (h : d ∈ dirsV v) : d.1.length ≤ v.length ∧ d.2.1.length ≤ v.length := by
  unfold dirsV at h
  rw [List.mem_flatMap] at h
  obtain ⟨p, hp, hd⟩ := h
  have h1 := split_piece v p hp
  have h2 := dirOf_bound p d hd
  omega
theorem dirsL_bound (l : List Bs) (b : Nat) (hb : ∀ v ∈ l, v.length ≤ b) (d : Dir) (h : d ∈ dirsL l) : d.1.length ≤ b ∧ d.2.1.length ≤ b := by
  unfold dirsL at h
  rw [List.mem_flatMap] at h
  obtain ⟨v, hv, hd⟩ := h
  have h1 := dirsV_bound v d hd
  have h2 := hb v hv
  omega

/-! names -/
theorem low_kind (c : UInt8) (h : 2 ≤ kindOf c.toNat) : 2 ≤ kindOf (lowB c).toNat := by
  have : ∀ n : Nat, n < 256 → 2 ≤ kindOf n → 2 ≤ kindOf (lowB (UInt8.ofNat n)).toNat := by decide +kernel
  have h2 := this c.toNat c.toNat_lt h
  rwa [UInt8.ofNat_toNat] at h2
theorem tok_low {n : Bs} (h : tokB n = true) : tokB (lowL n) = true := by
  unfold tokB at *
  rw [Bool.and_eq_true] at *
  refine ⟨?_, ?_⟩
  · have := h.1; cases n with
    | nil => simp at this
    | cons a t => rfl
  · have h2 := h.2
    unfold allL at *
    rw [List.all_eq_true] at *
    intro x hx
    unfold lowL at hx
    rw [List.mem_map] at hx
    obtain ⟨y, hy, rfl⟩ := hx
    have := h2 y hy
    simp only [decide_eq_true_eq] at *
    exact low_kind y this
theorem dirOf_name (p : Bs) (d : Dir) (h : d ∈ dirOf p) : tokB d.1 = true ∧ lowL d.1 = d.1 := by
  unfold dirOf at h
  split at h
  · rename_i ht
    rw [List.mem_singleton] at h
    subst h
    exact ⟨tok_low ht, lowL_lowL _⟩
  · simp at h
theorem dirsL_name (l : List Bs) (d : Dir) (h : d ∈ dirsL l) : tokB d.1 = true ∧ lowL d.1 = d.1 := by
  unfold dirsL dirsV at h
  rw [List.mem_flatMap] at h
  obtain ⟨v, -, hd⟩ := h
  rw [List.mem_flatMap] at hd
  obtain ⟨p, -, hd⟩ := hd
  exact dirOf_name p d hd
theorem tok_name {n : Bs} (h : tokB n = true) (hl : lowL n = n) : nameB n = true := by
  have ht : ∀ x ∈ n, 2 ≤ kindOf x.toNat := by
    unfold tokB allL at h
    rw [Bool.and_eq_true, List.all_eq_true] at h
    intro x hx
    exact of_decide_eq_true (h.2 x hx)
  unfold nameB
  rw [h, decide_eq_true hl, Bool.true_and, Bool.true_and, List.all_eq_true]
  intro x hx
  have h2 := ht x hx
  have e : ∀ c : UInt8, x = c → 2 ≤ kindOf c.toNat := fun c hc => hc ▸ h2
  simp only [Bool.and_eq_true, bne_iff_ne]
  refine ⟨⟨⟨⟨?_, ?_⟩, ?_⟩, ?_⟩, ?_⟩ <;> (intro hc; have := e _ hc; revert this; decide)
/-- a name alone -/
theorem parse_name {n : Bs} (h : tokB n = true) (hl : lowL n = n) : parseL [n] = oneC (n, [], false) := by
  have hn := tok_name h hl
  have e : splitL n = [n] := by
    have := split_joined2 [n] (by intro q hq; rw [List.mem_singleton] at hq; subst hq; exact plain_name hn)
    rwa [Lib.join_one] at this
  unfold parseL dirsL dirsV
  rw [List.flatMap_cons, List.flatMap_nil, List.append_nil, e, List.flatMap_cons, List.flatMap_nil, List.append_nil, dirOf_flag hn]
  rfl

/-! truths -/
def flags (c : Ctl) : List Bool := [c.b0, c.b1, c.b2, c.b3, c.b4, c.b5, c.b6, c.b7, c.b8]
theorem flags_one (n t : Bs) (h : Bool) : flags (oneC (n, t, h)) = flags (oneC (n, [], false)) := by
  unfold oneC setC
  simp only []
  by_cases e0 : n = dn0
  · rw [if_pos e0, if_pos e0]; rfl
  rw [if_neg e0, if_neg e0]
  by_cases e1 : n = dn1
  · rw [if_pos e1, if_pos e1]; rfl
  rw [if_neg e1, if_neg e1]
  by_cases e2 : n = dn2
  · rw [if_pos e2, if_pos e2]; rfl
  rw [if_neg e2, if_neg e2]
  by_cases e3 : n = dn3
  · rw [if_pos e3, if_pos e3]; rfl
  rw [if_neg e3, if_neg e3]
  by_cases e4 : n = dn4
  · rw [if_pos e4, if_pos e4]; rfl
  rw [if_neg e4, if_neg e4]
  by_cases e5 : n = dn5
  · rw [if_pos e5, if_pos e5]; rfl
  rw [if_neg e5, if_neg e5]
  by_cases e6 : n = dn6
  · rw [if_pos e6, if_pos e6]; rfl
  rw [if_neg e6, if_neg e6]
  by_cases e7 : n = dn7
  · rw [if_pos e7, if_pos e7]; rfl
  rw [if_neg e7, if_neg e7]
  by_cases e8 : n = dn8
  · rw [if_pos e8, if_pos e8]; rfl
  rw [if_neg e8, if_neg e8]
  by_cases e9 : n = dn9
  · rw [if_pos e9, if_pos e9]; rfl
  rw [if_neg e9, if_neg e9]
  by_cases e10 : n = dn10
  · rw [if_pos e10, if_pos e10]; rfl
  rw [if_neg e10, if_neg e10]
  by_cases e11 : n = dn11
  · rw [if_pos e11, if_pos e11]; rfl
  rw [if_neg e11, if_neg e11]
  by_cases e12 : n = dn12
  · rw [if_pos e12, if_pos e12]; rfl
  rw [if_neg e12, if_neg e12]
  by_cases e13 : n = dn13
  · rw [if_pos e13, if_pos e13]; rfl
  rw [if_neg e13, if_neg e13]
  by_cases e14 : n = dn14
  · rw [if_pos e14, if_pos e14]; rfl
  rw [if_neg e14, if_neg e14]
theorem fold_mem : ∀ (ds : List Dir) (c : Ctl) (d : Dir), vC c → d ∈ ds → ∃ x y, vC x ∧ foldC c ds = joinC x (joinC (oneC d) y)
  | [], _, _, _, h => by simp at h
  | e :: t, c, d, hv, h => by
    have e1 : foldC c (e :: t) = foldC (setC c e) t := rfl
    rcases List.mem_cons.1 h with rfl | h
    · refine ⟨c, foldC noneC t, hv, ?_⟩
      rw [e1, fold_join t (v_setC d hv), set_join d hv, join_assoc]
    · obtain ⟨x, y, hx, hh⟩ := fold_mem t (setC c e) d (v_setC e hv) h
      exact ⟨x, y, hx, by rw [e1, hh]⟩
theorem parse_flags (l : List Bs) (d : Dir) (h : d ∈ dirsL l) :
    ((parseL [d.1]).b0 = true → (parseL l).b0 = true) ∧ ((parseL [d.1]).b1 = true → (parseL l).b1 = true) ∧ ((parseL [d.1]).b7 = true → (parseL l).b7 = true) ∧ ((parseL [d.1]).b8 = true → (parseL l).b8 = true) := by
  obtain ⟨h1, h2⟩ := dirsL_name l d h
  rw [parse_name h1 h2]
  obtain ⟨x, y, -, e⟩ := fold_mem (dirsL l) noneC d v_none h
  have ef := flags_one d.1 d.2.1 d.2.2
  have e2 : ((d.1, d.2.1, d.2.2) : Dir) = d := rfl
  rw [e2] at ef
  unfold flags at ef
  simp only [List.cons.injEq] at ef
  have e3 : parseL l = joinC x (joinC (oneC d) y) := e
  rw [e3]
  unfold joinC
  simp only [Bool.or_eq_true]
  obtain ⟨f0, f1, f2, f3, f4, f5, f6, f7, f8, -⟩ := ef
  exact ⟨fun k => .inr (.inl (f0.trans k)), fun k => .inr (.inl (f1.trans k)), fun k => .inr (.inl (f7.trans k)), fun k => .inr (.inl (f8.trans k))⟩

/-! one more directive -/
theorem more_num {a m : Int} (k : vN m) : a < 0 ∨ (0 ≤ leastI a m ∧ leastI a m ≤ a) := by
  have := least_or a m
  unfold vN at *
  omega
theorem more_max (a m : Int) : a ≤ max a m := by omega
/-! the text -/
theorem numP_len (n : Bs) (a : Int) (h : a ≤ 9223372036854775807) (hn : n.length ≤ 30) : (numP n a).length ≤ 1 ∧ Lib.lens (numP n a) ≤ 60 := by
  unfold numP
  split
  · simp [Lib.lens]
  · have := digL_len 18 a.toNat (by omega)
    refine ⟨by simp, ?_⟩
    simp [Lib.lens]; omega
theorem staP_len (a : Int) (h : a ≤ 9223372036854775807) : (staP a).length ≤ 1 ∧ Lib.lens (staP a) ≤ 60 := by
  unfold staP
  split
  · simp [Lib.lens]
  · split
    · exact ⟨by simp, by decide⟩
    · have := digL_len 18 a.toNat (by omega)
      refine ⟨by simp, ?_⟩
      have hd : dn2.length = 9 := by decide
      simp [Lib.lens, hd]; omega
theorem flgP_len (n : Bs) (b : Bool) (hn : n.length ≤ 30) : (flgP n b).length ≤ 1 ∧ Lib.lens (flgP n b) ≤ 60 := by
  unfold flgP
  split <;> simp [Lib.lens]; omega
theorem lens_app (a b : List Bs) : Lib.lens (a ++ b) = Lib.lens a + Lib.lens b := by
  induction a with
  | nil => simp [Lib.lens]
  | cons x t ih => simp [Lib.lens] at ih ⊢; omega
def segL (P : List Bs) (k : Nat) : Prop := P.length ≤ k ∧ Lib.lens P ≤ 60 * k
theorem segL.app {P Q : List Bs} {k : Nat} (h : segL P k) (h2 : Q.length ≤ 1 ∧ Lib.lens Q ≤ 60) : segL (P ++ Q) (k + 1) := by
  unfold segL at *
  rw [List.length_append, lens_app]; omega
def i64C (c : Ctl) : Prop := c.a0 ≤ 9223372036854775807 ∧ c.a1 ≤ 9223372036854775807 ∧ c.a2 ≤ 9223372036854775807 ∧ c.a3 ≤ 9223372036854775807 ∧ c.a4 ≤ 9223372036854775807 ∧ c.a5 ≤ 9223372036854775807
theorem parts_len15 (c : Ctl) (h : i64C c) : segL (partsC c) 15 := by
  obtain ⟨h0, h1, h2, h3, h4, h5⟩ := h
  have s0 : segL (numP dn0 c.a0) 1 := by have := numP_len dn0 c.a0 h0 (by decide); unfold segL; omega
  exact ((((((((((((((s0.app (numP_len dn1 c.a1 h1 (by decide))).app (staP_len c.a2 h2)).app (numP_len dn3 c.a3 h3 (by decide))).app (numP_len dn4 c.a4 h4 (by decide))).app (numP_len dn5 c.a5 h5 (by decide))).app (flgP_len dn6 c.b0 (by decide))).app (flgP_len dn7 c.b1 (by decide))).app (flgP_len dn8 c.b2 (by decide))).app (flgP_len dn9 c.b3 (by decide))).app (flgP_len dn10 c.b4 (by decide))).app (flgP_len dn11 c.b5 (by decide))).app (flgP_len dn12 c.b6 (by decide))).app (flgP_len dn13 c.b7 (by decide))).app (flgP_len dn14 c.b8 (by decide)))
theorem text_len (c : Ctl) (h : i64C c) : (textC c).length ≤ 1000 := by
  obtain ⟨h1, h2⟩ := parts_len15 c h
  unfold textC
  cases hp : partsC c with
  | nil => simp [Lib.join]
  | cons x r =>
    rw [hp] at h1 h2
    rw [Lib.join_length]
    simp at h1 ⊢
    omega
end Tk
end Go.Proofs.YtdmjpfmjfffmiaaDoor
