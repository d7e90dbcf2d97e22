/- etag: what a tag is, and what lists of tags say (plain). -/
import Derived.Test.YtajmheblbnodjaaDoorSmall0
namespace Go.Proofs.YtajmheblbnodjaaDoor
namespace Tk

abbrev Tg := Bool × Bs
/-- may the byte stand between the quotes of a tag? -/
def vch (c : UInt8) : Bool := !(decide ((c.toNat : Int) ≤ 32) || ((c.toNat : Int) == 34 || (c.toNat : Int) == 127))
def opq (l : Bs) : Bool := l.all vch
def tgW (s : Bs) : Bool := decide (s.take 2 = [87, 47])
def tgQ (s : Bs) : Bs := if tgW s then s.drop 2 else s
/-- is the rest behind the first quote, with one more quote, a value? -/
def tgC (r : Bs) : Bool := decide (r.drop (r.length - 1) = [34])
def tgV (r : Bs) : Bs := r.take (r.length - 1)
def tgB (q : Bs) : Bool := decide (q.take 1 = [34]) && (tgC (q.drop 1) && opq (tgV (q.drop 1)))
def tgO (s : Bs) : Bool := tgB (tgQ s)
def tgG (s : Bs) : Tg := if tgO s then (tgW s, tgV ((tgQ s).drop 1)) else (false, [])
def tgE (s : Bs) : Int := if tgO s then 0 else 4
def tgT (t : Tg) : Bs := if opq t.2 then (if t.1 then [87, 47] else []) ++ ([34] ++ t.2 ++ [34]) else []
def tgTE (t : Tg) : Int := if opq t.2 then 0 else 4

theorem pre2_tag (s : Bs) : Lib.hasPrefix s [87, 47] = tgW s ∧ Lib.trimPrefix s [87, 47] = tgQ s := by
  have h : Lib.hasPrefix s [87, 47] = tgW s := by
    unfold Lib.hasPrefix tgW
    match s with
    | [] => rfl
    | [a] => simp [List.isPrefixOf]
    | a :: b :: t =>
      show ((87 == a) && ((47 == b) && true)) = decide ([a, b] = [87, 47])
      by_cases h1 : a = 87
      · by_cases h2 : b = 47
        · subst h1 h2; rfl
        · rw [decide_eq_false (by simp [h2]), beq_eq_false_iff_ne.2 (fun e => h2 e.symm)]; simp
      · rw [decide_eq_false (by simp [h1]), beq_eq_false_iff_ne.2 (fun e => h1 e.symm)]; simp
  refine ⟨h, ?_⟩
  unfold Lib.trimPrefix tgQ
  rw [h]; rfl
def op1 (q : Bs) : Bool := decide (q.take 1 = [34])
def cp1 (q : Bs) : Bs := if op1 q then q.drop 1 else q
theorem pre1_tag (q : Bs) : Lib.hasPrefix q [34] = op1 q ∧ Lib.trimPrefix q [34] = cp1 q := by
  have h : Lib.hasPrefix q [34] = op1 q := by
    unfold Lib.hasPrefix op1
    match q with
    | [] => rfl
    | a :: t =>
      show ((34 == a) && true) = decide ([a] = [34])
      by_cases h1 : a = 34
      · subst h1; rfl
      · rw [decide_eq_false (by simp [h1]), beq_eq_false_iff_ne.2 (fun e => h1 e.symm)]; simp
  refine ⟨h, ?_⟩
  unfold Lib.trimPrefix cp1
  rw [h]; rfl
def cs1 (r : Bs) : Bs := if tgC r then tgV r else r
theorem suf1_tag (r : Bs) : Lib.hasSuffix r [34] = tgC r ∧ Lib.trimSuffix r [34] = cs1 r := by
  have h : Lib.hasSuffix r [34] = tgC r := by
    unfold Lib.hasSuffix tgC
    rw [Bool.eq_iff_iff, decide_eq_true_iff, List.isSuffixOf_iff_suffix, List.suffix_iff_eq_drop]
    simp [eq_comm]
  refine ⟨h, ?_⟩
  unfold Lib.trimSuffix cs1 tgV
  rw [h]; rfl
theorem tg_yes (s : Bs) (h1 : op1 (tgQ s) = true) (h2 : tgC (cp1 (tgQ s)) = true) (h3 : opq (cs1 (cp1 (tgQ s))) = true) : tgO s = true ∧ tgG s = (tgW s, cs1 (cp1 (tgQ s))) ∧ tgE s = 0 := by
  have e1 : cp1 (tgQ s) = (tgQ s).drop 1 := by unfold cp1; rw [if_pos h1]
  rw [e1] at h2 h3 ⊢
  have e2 : cs1 ((tgQ s).drop 1) = tgV ((tgQ s).drop 1) := by unfold cs1; rw [if_pos h2]
  rw [e2] at h3 ⊢
  have ho : tgO s = true := by
    unfold tgO tgB
    unfold op1 at h1
    rw [h1, h2, h3]; rfl
  refine ⟨ho, ?_, ?_⟩
  · unfold tgG; rw [if_pos ho]
  · unfold tgE; rw [if_pos ho]
theorem tg_no (s : Bs) (h : tgO s = false) : tgG s = (false, []) ∧ tgE s = 4 := by
  unfold tgG tgE; rw [h]; exact ⟨rfl, rfl⟩
theorem tg_no1 (s : Bs) (h1 : op1 (tgQ s) = false) : tgO s = false := by
  unfold op1 at h1; unfold tgO tgB; rw [h1]; rfl
theorem tg_no2 (s : Bs) (h1 : op1 (tgQ s) = true) (h2 : tgC (cp1 (tgQ s)) = false) : tgO s = false := by
  have e1 : cp1 (tgQ s) = (tgQ s).drop 1 := by unfold cp1; rw [if_pos h1]
  rw [e1] at h2
  unfold tgO tgB; rw [h2]; simp
theorem tg_no3 (s : Bs) (h1 : op1 (tgQ s) = true) (h2 : tgC (cp1 (tgQ s)) = true) (h3 : opq (cs1 (cp1 (tgQ s))) = false) : tgO s = false := by
  have e1 : cp1 (tgQ s) = (tgQ s).drop 1 := by unfold cp1; rw [if_pos h1]
  rw [e1] at h2 h3
  have e2 : cs1 ((tgQ s).drop 1) = tgV ((tgQ s).drop 1) := by unfold cs1; rw [if_pos h2]
  rw [e2] at h3
  unfold tgO tgB; rw [h3]; simp
theorem cs1_len (s : Bs) : (cs1 (cp1 (tgQ s))).length ≤ s.length := by
  have h1 : (tgQ s).length ≤ s.length := by unfold tgQ; split <;> simp
  have h2 : (cp1 (tgQ s)).length ≤ (tgQ s).length := by unfold cp1; split <;> simp
  have h3 : (cs1 (cp1 (tgQ s))).length ≤ (cp1 (tgQ s)).length := by
    unfold cs1 tgV; split
    · rw [List.length_take]; omega
    · exact Nat.le_refl _
  omega
theorem cp1_len (s : Bs) : (cp1 (tgQ s)).length ≤ s.length := by
  have h1 : (tgQ s).length ≤ s.length := by unfold tgQ; split <;> simp
  have h2 : (cp1 (tgQ s)).length ≤ (tgQ s).length := by unfold cp1; split <;> simp
  omega

theorem vch_facts (c : UInt8) (h : vch c = true) : 33 ≤ c.toNat ∧ c ≠ 34 ∧ c ≠ 127 ∧ wh c = false := by
  unfold vch at h
  simp only [Bool.not_eq_true', Bool.or_eq_false_iff, decide_eq_false_iff_not, beq_eq_false_iff_ne] at h
  have h1 : 33 ≤ c.toNat := by omega
  refine ⟨h1, fun e => ?_, fun e => ?_, ?_⟩
  · subst e; exact h.2.1 rfl
  · subst e; exact h.2.2 rfl
  · have e1 : c ≠ 32 := fun e => by subst e; exact absurd h1 (by decide)
    have e2 : c ≠ 9 := fun e => by subst e; exact absurd h1 (by decide)
    simp [wh, e1, e2]

/-- the text of a tag whose value may stand is read as the tag -/
theorem tgT_eq (t : Tg) (h : opq t.2 = true) : tgT t = (if t.1 then [87, 47] else []) ++ ([34] ++ t.2 ++ [34]) := by unfold tgT; rw [if_pos h]
theorem tgB_lit (v : Bs) (h : opq v = true) : tgB ([34] ++ v ++ [34]) = true ∧ tgV (([34] ++ v ++ [34]).drop 1) = v := by
  have e1 : ([34] ++ v ++ [34] : Bs).drop 1 = v ++ [34] := by simp
  have e2 : tgV (v ++ [34]) = v := by unfold tgV; simp
  have e3 : tgC (v ++ [34]) = true := by unfold tgC; simp
  have e4 : ([34] ++ v ++ [34] : Bs).take 1 = [34] := by simp
  refine ⟨?_, by rw [e1, e2]⟩
  unfold tgB
  rw [e1, e2, e3, e4, h]; rfl
theorem tgQ_tgT (t : Tg) (h : opq t.2 = true) : tgW (tgT t) = t.1 ∧ tgQ (tgT t) = [34] ++ t.2 ++ [34] := by
  rw [tgT_eq t h]
  obtain ⟨w, v⟩ := t
  cases w
  · have e : tgW ([] ++ ([34] ++ v ++ [34] : Bs)) = false := by unfold tgW; cases v <;> simp
    refine ⟨e, ?_⟩
    unfold tgQ
    simp only [Bool.false_eq_true, if_false]
    rw [e]; rfl
  · have e : tgW ([87, 47] ++ ([34] ++ v ++ [34] : Bs)) = true := by unfold tgW; simp
    refine ⟨e, ?_⟩
    unfold tgQ
    simp only [if_true]
    rw [e]; simp
theorem tgO_tgT (t : Tg) (h : opq t.2 = true) : tgO (tgT t) = true ∧ tgG (tgT t) = t := by
  obtain ⟨h1, h2⟩ := tgQ_tgT t h
  obtain ⟨h3, h4⟩ := tgB_lit t.2 h
  have e : tgO (tgT t) = true := by unfold tgO; rw [h2]; exact h3
  refine ⟨e, ?_⟩
  unfold tgG
  rw [if_pos e, h1, h2, h4]
theorem tgT_len (t : Tg) : (tgT t).length ≤ t.2.length + 4 := by
  unfold tgT
  split
  · split <;> simp
  · simp
theorem tgT_ne (t : Tg) (h : opq t.2 = true) : tgT t ≠ [] := by
  rw [tgT_eq t h]; cases t.1 <;> simp

/-- parts of a list of texts -/
def prtL (L : List Bs) : List Bs := L.flatMap splitL
def tagsS (P : List Bs) : Bool := decide (P = [[42]])
def tagsE (P : List Bs) : Int := if P = [] then 4 else if P = [[42]] then 0 else if P.all tgO then 0 else 4
def tagsL (P : List Bs) : List Tg := if P = [[42]] then [] else if P.all tgO then P.map tgG else []

/- a list of tags, written in a row -/
theorem closeLen_val : ∀ (v r : Bs), (∀ c ∈ v, c ≠ 92 ∧ c ≠ 34) → closeLen (v ++ 34 :: r) = v.length
  | [], r, _ => closeLen_q r
  | c :: v, r, h => by
    rw [List.cons_append, closeLen_o c _ (h c (by simp)).1 (h c (by simp)).2, closeLen_val v r (fun x hx => h x (by simp [hx]))]
    simp; omega
def plT (t : Tg) : Prop := opq t.2 = true ∧ ∀ c ∈ t.2, c ≠ 92
theorem spl_tag (t : Tg) (h : plT t) (w r : Bs) : spl 0 w (tgT t ++ r) = spl 0 (w ++ tgT t) r := by
  have hv : ∀ c ∈ t.2, c ≠ 92 ∧ c ≠ 34 := fun c hc => ⟨h.2 c hc, (vch_facts c (List.all_eq_true.1 h.1 c hc)).2.1⟩
  have q : ∀ w : Bs, spl 0 w (34 :: (t.2 ++ 34 :: r)) = spl 0 (w ++ ([34] ++ t.2 ++ [34])) r := by
    intro w
    rw [spl, if_neg (by decide), if_pos rfl, spl_close, closeLen_val t.2 r hv]
    have e1 : (t.2 ++ 34 :: r).take (t.2.length + 1) = t.2 ++ [34] := by
      rw [List.take_append, List.take_of_length_le (by omega)]; simp
    have e2 : (t.2 ++ 34 :: r).drop (t.2.length + 1) = r := by
      rw [List.drop_append, List.drop_eq_nil_of_le (by omega)]; simp
    rw [e1, e2]; simp
  rw [tgT_eq t h.1]
  cases t.1
  · have e : (if false = true then [87, 47] else []) ++ ([34] ++ t.2 ++ [34]) ++ r = 34 :: (t.2 ++ 34 :: r) := by simp
    rw [e, q]; simp
  · have e : (if true = true then [87, 47] else []) ++ ([34] ++ t.2 ++ [34]) ++ r = 87 :: 47 :: 34 :: (t.2 ++ 34 :: r) := by simp
    rw [e, spl, if_neg (by decide), if_neg (by decide), spl, if_neg (by decide), if_neg (by decide), q]; simp
theorem neat_tag (t : Tg) (h : opq t.2 = true) : Neat (tgT t) := by
  rw [tgT_eq t h]
  refine ⟨fun c hc => ?_, fun c hc => ?_⟩
  · cases hw : t.1 <;> rw [hw] at hc <;> simp at hc <;> subst hc <;> decide
  · rw [← List.append_assoc, List.getLast?_append] at hc
    have e : (34 : UInt8) = c := by simpa using hc
    subst e; decide
theorem tr_b (l : Bs) : tr (l ++ [32]) = tr l := by
  unfold tr
  rw [List.reverse_append]
  show ((32 :: l.reverse).dropWhile wh).reverse = _
  rw [List.dropWhile_cons, show wh 32 = true by decide, if_pos rfl]
theorem trim_front (m : Bs) (h : Neat m) : trimL (32 :: m) = m := by
  rw [trimL_eq, tr_cons, ← trimL_eq, neat_trim m h]
theorem trim_end (m : Bs) (h : Neat m) : trimL (m ++ [32]) = m := by rw [trimL_eq, tr_b, ← trimL_eq, neat_trim m h]
theorem trim_both (m : Bs) (h : Neat m) : trimL (32 :: (m ++ [32])) = m := by
  rw [trimL_eq, ← List.cons_append, tr_b, ← trimL_eq]; exact trim_front m h

/-- the tags before the cut: each with " , " behind it -/
def txP (l : List Tg) : Bs := l.flatMap fun t => tgT t ++ [32, 44, 32]
/-- the tags behind the cut: each with "," before it -/
def txS (l : List Tg) : Bs := l.flatMap fun t => 44 :: tgT t
theorem add_tag (t : Tg) (h : opq t.2 = true) : addP (tgT t) = [tgT t] := by unfold addP; rw [if_neg (tgT_ne t h)]
theorem parts_txP : ∀ (l : List Tg) (w : Bs), (∀ t ∈ l, plT t) → (w = [] ∨ w = [32]) → parts (spl 0 w (txP l)) = l.map tgT
  | [], w, _, hw => by rcases hw with rfl | rfl <;> decide
  | t :: l, w, h, hw => by
    have ht := h t (by simp)
    have e : txP (t :: l) = tgT t ++ ([32, 44, 32] ++ txP l) := by simp [txP]
    rw [e, spl_tag t ht]
    have e2 : spl 0 (w ++ tgT t) ([32, 44, 32] ++ txP l) = (w ++ tgT t ++ [32]) :: spl 0 [32] (txP l) := by
      show spl 0 _ (32 :: 44 :: 32 :: txP l) = _
      rw [spl, if_neg (by decide), if_neg (by decide), spl, if_pos rfl, spl, if_neg (by decide), if_neg (by decide)]
      rfl
    rw [e2, parts_cons, parts_txP l [32] (fun x hx => h x (by simp [hx])) (.inr rfl)]
    have e3 : trimL (w ++ tgT t ++ [32]) = tgT t := by
      rcases hw with rfl | rfl
      · exact trim_end _ (neat_tag t ht.1)
      · exact trim_both _ (neat_tag t ht.1)
    rw [e3, add_tag t ht.1]; rfl
theorem split_txP (l : List Tg) (h : ∀ t ∈ l, plT t) : splitL (txP l) = l.map tgT := parts_txP l [] h (.inl rfl)
theorem parts_txS : ∀ (l : List Tg) (m : Bs), (∀ t ∈ l, plT t) → Neat m → parts (spl 0 m (txS l)) = addP m ++ l.map tgT
  | [], m, _, hm => by
    show parts (spl 0 m []) = _
    rw [spl, parts_one, neat_trim m hm]; simp
  | t :: l, m, h, hm => by
    have ht := h t (by simp)
    have e : txS (t :: l) = 44 :: (tgT t ++ txS l) := by simp [txS]
    rw [e, spl, if_pos rfl, spl_tag t ht, List.nil_append, parts_cons, neat_trim m hm, parts_txS l (tgT t) (fun x hx => h x (by simp [hx])) (neat_tag t ht.1), add_tag t ht.1]
    simp
theorem split_txS (l : List Tg) (h : ∀ t ∈ l, plT t) : splitL (txS l) = l.map tgT := by
  unfold splitL
  rw [parts_txS l [] h ⟨fun c hc => by simp at hc, fun c hc => by simp at hc⟩]
  simp [addP]
theorem all_tags (l : List Tg) (h : ∀ t ∈ l, plT t) : (l.map tgT).all tgO = true ∧ (l.map tgT).map tgG = l := by
  induction l with
  | nil => exact ⟨rfl, rfl⟩
  | cons t l ih =>
    obtain ⟨h1, h2⟩ := ih (fun x hx => h x (by simp [hx]))
    have ht := tgO_tgT t (h t (by simp)).1
    refine ⟨?_, ?_⟩
    · rw [List.map_cons, List.all_cons, ht.1, h1]; rfl
    · rw [List.map_cons, List.map_cons, ht.2, h2]
theorem star_no : tgO [42] = false := by decide
theorem tgT_star (t : Tg) : tgT t ≠ [42] := by
  intro h
  by_cases ho : opq t.2 = true
  · have := (tgO_tgT t ho).1
    rw [h, star_no] at this; cases this
  · unfold tgT at h; rw [if_neg ho] at h; cases h
theorem tags_back (l : List Tg) (h : ∀ t ∈ l, plT t) (hne : l ≠ []) : tagsS (l.map tgT) = false ∧ tagsE (l.map tgT) = 0 ∧ tagsL (l.map tgT) = l := by
  have h0 : l.map tgT ≠ [] := by simpa using hne
  have h1 : l.map tgT ≠ [[42]] := by
    intro e
    cases l with
    | nil => cases e
    | cons t l => rw [List.map_cons] at e; injection e with e1 _; exact tgT_star t e1
  obtain ⟨h2, h3⟩ := all_tags l h
  refine ⟨by unfold tagsS; rw [decide_eq_false h1], ?_, ?_⟩
  · unfold tagsE; rw [if_neg h0, if_neg h1, if_pos h2]
  · unfold tagsL; rw [if_neg h1, if_pos h2, h3]
theorem tags_star (a b : List Tg) (h : a ≠ [] ∨ b ≠ []) : tagsS (a.map tgT ++ [[42]] ++ b.map tgT) = false ∧ tagsE (a.map tgT ++ [[42]] ++ b.map tgT) = 4 := by
  have h1 : a.map tgT ++ [[42]] ++ b.map tgT ≠ [[42]] := by
    intro e
    have := congrArg List.length e
    simp at this
    rcases h with h | h
    · exact h (List.eq_nil_of_length_eq_zero (by omega))
    · exact h (List.eq_nil_of_length_eq_zero (by omega))
  have h0 : a.map tgT ++ [[42]] ++ b.map tgT ≠ [] := by simp
  refine ⟨by unfold tagsS; rw [decide_eq_false h1], ?_⟩
  unfold tagsE
  rw [if_neg h0, if_neg h1, if_neg]
  rw [List.all_append, List.all_append, List.all_cons, star_no]
  simp
theorem split_star : splitL [42] = [[42]] := by decide
end Tk
end Go.Proofs.YtajmheblbnodjaaDoor
