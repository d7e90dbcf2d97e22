/- Sta0 Sta1 RefA RefTr RefSp RefF RefK RefE, put together. -/
import Derived.Test.YtcddkeekabafgaaGreatDoorQA
import Derived.Test.YtcddkeekabafgaaGreatDoorQD
import Derived.Test.YtcddkeekabafgaaGreatDoorQB
namespace Go.Proofs.YtcddkeekabafgaaGreatDoor
namespace Tk

def vis (c : UInt8) : Bool := decide (33 ≤ c.toNat) && decide (c.toNat ≤ 126)
def someL (p : UInt8 → Bool) (l : Bs) : Bool := !l.isEmpty && l.all p
def tokL (l : Bs) : Bool := !l.isEmpty && allL 2 l
def oneDig (l : Bs) : Bool := decide (l.length = 1) && l.all isDig
def httpL : Bs := [72, 84, 84, 80, 47]

def vN (l : Bs) : Bs := if httpL.isPrefixOf l then l.drop 5 else l
def vA (l : Bs) : Bs := (cutL 46 (vN l)).1
def vB (l : Bs) : Bs := (cutL 46 (vN l)).2.1
def vForm (l : Bs) : Bool := httpL.isPrefixOf l && (oneDig (vA l) && oneDig (vB l))
def vKnown (l : Bs) : Bool := decide (vA l = [49]) && (decide (vB l = [48]) || decide (vB l = [49]))
def vSt (l : Bs) : Nat := if vForm l then (if vKnown l then 0 else 505) else 400
def vMi (l : Bs) : Nat := if vSt l = 0 then ((vB l).getD 0 0).toNat - 48 else 0

theorem mem_takeWhile_of (p : UInt8 → Bool) : ∀ (l : Bs) (x : UInt8), x ∈ l.takeWhile p → p x = true
  | [], x, h => by simp at h
  | a :: t, x, h => by
    rw [List.takeWhile_cons] at h
    split at h
    · next ha =>
      rcases List.mem_cons.1 h with rfl | h
      · exact ha
      · exact mem_takeWhile_of p t x h
    · simp at h
theorem dropWhile_ne (c : UInt8) : ∀ l : Bs, c ∈ l → l.dropWhile (· != c) = c :: (l.dropWhile (· != c)).drop 1
  | [], h => by simp at h
  | a :: t, h => by
    by_cases e : a = c
    · subst e; rw [List.dropWhile_cons]; simp
    · have e' : (a != c) = true := by simpa using e
      rw [List.dropWhile_cons, if_pos e']
      rcases List.mem_cons.1 h with rfl | h
      · exact absurd rfl e
      · exact dropWhile_ne c t h
theorem cut_split (c : UInt8) (l : Bs) : l = (cutL c l).1 ++ (if (cutL c l).2.2 then c :: (cutL c l).2.1 else []) := by
  unfold cutL
  by_cases h : l.contains c
  · rw [if_pos h]
    simp only [if_true]
    have hd := dropWhile_ne c l (by simpa using h)
    have := List.takeWhile_append_dropWhile (p := (· != c)) (l := l)
    rw [hd] at this
    exact this.symm
  · rw [if_neg h]; simp
theorem cut_first (c : UInt8) (l : Bs) : ∀ x ∈ (cutL c l).1, x ≠ c := by
  unfold cutL
  by_cases h : l.contains c
  · rw [if_pos h]
    intro x hx
    have := mem_takeWhile_of _ _ _ hx
    simpa using this
  · rw [if_neg h]
    intro x hx e
    subst e
    exact h (by simpa using hx)
theorem cut_none (c : UInt8) (l : Bs) (h : ∀ x ∈ l, x ≠ c) : cutL c l = (l, [], false) := by
  unfold cutL
  rw [if_neg]
  intro hc
  exact h c (by simpa using hc) rfl
theorem cutL_at (c : UInt8) (a b : Bs) (h : ∀ x ∈ a, x ≠ c) : cutL c (a ++ c :: b) = (a, b, true) := by
  have hn : ∀ x ∈ a, (x != c) = true := fun x hx => by simpa using h x hx
  unfold cutL
  rw [if_pos (by simp)]
  rw [List.takeWhile_append_of_pos hn, List.dropWhile_append_of_pos hn, List.takeWhile_cons, List.dropWhile_cons]
  simp
theorem cut_empty (c : UInt8) : cutL c [] = ([], [], false) := rfl

theorem oneDig_of (l : Bs) (h : oneDig l = true) : ∃ c, l = [c] ∧ isDig c = true := by
  unfold oneDig at h
  match l, h with
  | [c], h => exact ⟨c, rfl, by simpa using h⟩
theorem oneDig_one (c : UInt8) (h : isDig c = true) : oneDig [c] = true := by unfold oneDig; simp [h]
theorem dig_bd (c : UInt8) (h : isDig c = true) : 48 ≤ c.toNat ∧ c.toNat ≤ 57 := by
  unfold isDig at h; simpa using h

/-- a version that is well formed: its eight bytes -/
theorem vForm_of (l : Bs) (h : vForm l = true) : ∃ a b, isDig a = true ∧ isDig b = true ∧ l = httpL ++ [a, 46, b] ∧ vA l = [a] ∧ vB l = [b] := by
  unfold vForm at h
  simp only [Bool.and_eq_true] at h
  obtain ⟨hp, ha, hb⟩ := h
  obtain ⟨a, ea, da⟩ := oneDig_of _ ha
  obtain ⟨b, eb, db⟩ := oneDig_of _ hb
  refine ⟨a, b, da, db, ?_, ea, eb⟩
  obtain ⟨t, ht⟩ := List.isPrefixOf_iff_prefix.1 hp
  have hn : vN l = t := by
    unfold vN; rw [if_pos hp, ← ht]; rfl
  have hs := cut_split 46 t
  unfold vA at ea
  unfold vB at eb
  rw [hn] at ea eb
  rw [ea, eb] at hs
  by_cases hf : (cutL 46 t).2.2
  · rw [if_pos hf] at hs
    rw [← ht, hs]; rfl
  · have : (cutL 46 t).2.1 = [] := by
      unfold cutL at hf ⊢
      by_cases hc : t.contains 46
      · rw [if_pos hc] at hf; exact absurd rfl hf
      · rw [if_neg hc]
    rw [this] at eb; cases eb
theorem vN_http (t : Bs) : vN (httpL ++ t) = t := by
  unfold vN
  rw [if_pos (List.isPrefixOf_iff_prefix.2 ⟨t, rfl⟩)]; rfl
theorem v_digits (a b : UInt8) (ha : isDig a = true) (hb : isDig b = true) : vForm (httpL ++ [a, 46, b]) = true ∧ vA (httpL ++ [a, 46, b]) = [a] ∧ vB (httpL ++ [a, 46, b]) = [b] := by
  have hne : ∀ x ∈ [a], x ≠ (46 : UInt8) := fun x hx e => by
    rw [List.mem_singleton] at hx
    subst hx; subst e
    exact absurd ha (by decide)
  have hc : cutL 46 (vN (httpL ++ [a, 46, b])) = ([a], [b], true) := by
    rw [vN_http]; exact cutL_at 46 [a] [b] hne
  have h1 : vA (httpL ++ [a, 46, b]) = [a] := by unfold vA; rw [hc]
  have h2 : vB (httpL ++ [a, 46, b]) = [b] := by unfold vB; rw [hc]
  refine ⟨?_, h1, h2⟩
  unfold vForm
  rw [h1, h2, oneDig_one a ha, oneDig_one b hb, List.isPrefixOf_iff_prefix.2 ⟨_, rfl⟩]; rfl

/-- the text of a version that is supported -/
def vText (m : Nat) : Bs := [72, 84, 84, 80, 47, 49, 46, UInt8.ofNat (48 + m)]
theorem vText_ok (m : Nat) (h : m = 0 ∨ m = 1) : vSt (vText m) = 0 ∧ vMi (vText m) = m := by
  rcases h with rfl | rfl <;> decide
theorem vSt_zero (l : Bs) (h : vSt l = 0) : (vMi l = 0 ∨ vMi l = 1) ∧ l = vText (vMi l) := by
  have hm : vMi l = ((vB l).getD 0 0).toNat - 48 := by unfold vMi; rw [if_pos h]
  unfold vSt at h
  split at h
  · next hf =>
    split at h
    · next hk =>
      obtain ⟨a, b, da, db, el, ea, eb⟩ := vForm_of l hf
      unfold vKnown at hk
      rw [ea, eb] at hk
      rw [eb] at hm
      simp at hk
      obtain ⟨rfl, hk⟩ := hk
      rcases hk with rfl | rfl
      · have : vMi l = 0 := hm
        rw [this]; exact ⟨.inl rfl, el⟩
      · have : vMi l = 1 := hm
        rw [this]; exact ⟨.inr rfl, el⟩
    · cases h
  · cases h
theorem vSt_three (l : Bs) : vSt l = 0 ∨ vSt l = 400 ∨ vSt l = 505 := by
  unfold vSt; split
  · split <;> simp
  · simp

/-- the parts of a request line, or why it is none -/
def rM (l : Bs) : Bs := (cutL 32 l).1
def rT (l : Bs) : Bs := (cutL 32 (cutL 32 l).2.1).1
def rV (l : Bs) : Bs := (cutL 32 (cutL 32 l).2.1).2.1
def rIn (m t : Bs) : Bool := tokL m && someL vis t
def rSt (l : Bs) : Nat := if rIn (rM l) (rT l) then vSt (rV l) else 400
def reqM (l : Bs) : Bs := if rSt l = 0 then rM l else []
def reqT (l : Bs) : Bs := if rSt l = 0 then rT l else []
def reqN (l : Bs) : Nat := if rSt l = 0 then vMi (rV l) else 0

theorem all_ne (p : UInt8 → Bool) (l : Bs) (h : l.all p = true) (c : UInt8) (hc : p c = false) : ∀ x ∈ l, x ≠ c := by
  intro x hx e
  subst e
  rw [List.all_eq_true] at h
  rw [h x hx] at hc
  cases hc
theorem tok_ne (l : Bs) (h : tokL l = true) (c : UInt8) (hc : kindOf c.toNat < 2) : ∀ x ∈ l, x ≠ c := by
  unfold tokL at h
  rw [Bool.and_eq_true] at h
  intro x hx e
  subst e
  have := allL_mem 2 l h.2 x hx
  omega

def reqLine (m t : Bs) (n : Nat) : Bs := m ++ 32 :: (t ++ 32 :: vText n)
theorem req_cuts (m t v : Bs) (hm : tokL m = true) (ht : someL vis t = true) : rM (m ++ 32 :: (t ++ 32 :: v)) = m ∧ rT (m ++ 32 :: (t ++ 32 :: v)) = t ∧ rV (m ++ 32 :: (t ++ 32 :: v)) = v := by
  have h1 : cutL 32 (m ++ 32 :: (t ++ 32 :: v)) = (m, t ++ 32 :: v, true) := cutL_at 32 m _ (tok_ne m hm 32 (by decide))
  unfold someL at ht
  rw [Bool.and_eq_true] at ht
  have h2 : cutL 32 (t ++ 32 :: v) = (t, v, true) := cutL_at 32 t v (all_ne vis t ht.2 32 (by decide))
  unfold rM rT rV
  rw [h1]
  simp only [h2, and_self]
theorem req_line (m t : Bs) (n : Nat) (hm : tokL m = true) (ht : someL vis t = true) (hn : n = 0 ∨ n = 1) :
    rSt (reqLine m t n) = 0 ∧ reqM (reqLine m t n) = m ∧ reqT (reqLine m t n) = t ∧ reqN (reqLine m t n) = n := by
  obtain ⟨h1, h2, h3⟩ := req_cuts m t (vText n) hm ht
  obtain ⟨v1, v2⟩ := vText_ok n hn
  have hs : rSt (reqLine m t n) = 0 := by
    unfold rSt reqLine rIn
    rw [h1, h2, h3, hm, ht]
    exact v1
  refine ⟨hs, ?_, ?_, ?_⟩
  · unfold reqM; rw [if_pos hs]; exact h1
  · unfold reqT; rw [if_pos hs]; exact h2
  · unfold reqN; rw [if_pos hs]; unfold reqLine; rw [h3]; exact v2
theorem cut_nil_of (c : UInt8) (l : Bs) (h : (cutL c l).2.2 = false) : (cutL c l).2.1 = [] := by
  unfold cutL at h ⊢
  by_cases hc : l.contains c
  · rw [if_pos hc] at h; cases h
  · rw [if_neg hc]
/-- a line that is a request line is the one that says its parts -/
theorem req_is (l : Bs) (h : rSt l = 0) : l = reqLine (reqM l) (reqT l) (reqN l) ∧ tokL (reqM l) = true ∧ someL vis (reqT l) = true ∧ (reqN l = 0 ∨ reqN l = 1) := by
  have e1 : reqM l = rM l := by unfold reqM; rw [if_pos h]
  have e2 : reqT l = rT l := by unfold reqT; rw [if_pos h]
  have e3 : reqN l = vMi (rV l) := by unfold reqN; rw [if_pos h]
  rw [e1, e2, e3]
  unfold rSt at h
  split at h
  · next hin =>
    unfold rIn at hin
    rw [Bool.and_eq_true] at hin
    obtain ⟨hm, ht⟩ := hin
    obtain ⟨hv, hvt⟩ := vSt_zero _ h
    refine ⟨?_, hm, ht, hv⟩
    have s1 := cut_split 32 l
    have s2 := cut_split 32 (cutL 32 l).2.1
    have f1 : (cutL 32 l).2.2 = true := by
      cases hf : (cutL 32 l).2.2 with
      | true => rfl
      | false =>
        have := cut_nil_of 32 l hf
        unfold rT at ht
        rw [this, cut_empty] at ht
        cases ht
    have f2 : (cutL 32 (cutL 32 l).2.1).2.2 = true := by
      cases hf : (cutL 32 (cutL 32 l).2.1).2.2 with
      | true => rfl
      | false =>
        have := cut_nil_of 32 _ hf
        have hr : rV l = [] := this
        rw [hr] at h
        exact absurd h (by decide)
    rw [if_pos f1] at s1
    rw [if_pos f2] at s2
    rw [s2] at s1
    have hvt' : (cutL 32 (cutL 32 l).2.1).2.1 = vText (vMi (rV l)) := hvt
    rw [hvt'] at s1
    exact s1
  · cases h
theorem rSt_three (l : Bs) : rSt l = 0 ∨ rSt l = 400 ∨ rSt l = 505 := by
  unfold rSt; split
  · exact vSt_three _
  · simp

/-- the parts of a status line, or that it is none -/
def sV (l : Bs) : Bs := (cutL 32 l).1
def sD (l : Bs) : Bs := (cutL 32 (cutL 32 l).2.1).1
def sR (l : Bs) : Bs := (cutL 32 (cutL 32 l).2.1).2.1
def sB (l : Bs) : Bool := (cutL 32 (cutL 32 l).2.1).2.2
def sIn (n : Nat) (r : Bs) : Bool := decide (100 ≤ n) && decide (n ≤ 599) && r.all fun c => decide (1 ≤ kindOf c.toNat)
def sOk (l : Bs) : Bool := decide (vSt (sV l) = 0) && decide ((numL (sD l)).2 = 0) && decide ((sD l).length = 3) && sB l && sIn (numL (sD l)).1 (sR l)
def staM (l : Bs) : Nat := if sOk l then vMi (sV l) else 0
def staN (l : Bs) : Nat := if sOk l then (numL (sD l)).1 else 0
def staR (l : Bs) : Bs := if sOk l then sR l else []
def staE (l : Bs) : Nat := if sOk l then 0 else 4

def staLine (m n : Nat) (r : Bs) : Bs := vText m ++ 32 :: (digL n ++ 32 :: r)

theorem digL_three (n : Nat) (h0 : 100 ≤ n) (h1 : n ≤ 599) : digL n = [UInt8.ofNat (48 + n / 100), UInt8.ofNat (48 + n / 10 % 10), UInt8.ofNat (48 + n % 10)] := by
  rw [digL, dif_neg (by omega), digL, dif_neg (by omega), digL, dif_pos (by omega), Nat.div_div_eq_div_mul]; rfl
theorem digs_all (n : Nat) : (digL n).all isDig = true := by
  rw [List.all_eq_true]; exact digL_digits n n (Nat.le_refl _)
theorem num_digL (n : Nat) (h : n ≤ maxN) : numL (digL n) = (n, 0) := by
  have := num_zeros 0 n
  rw [List.replicate_zero, List.nil_append] at this
  rw [this, if_neg (by omega)]
theorem num_three_dig (l : Bs) (hl : l.length = 3) (h : (numL l).2 = 0) (h0 : 100 ≤ (numL l).1) (h1 : (numL l).1 ≤ 599) : l = digL (numL l).1 := by
  match l, hl with
  | [a, b, c], _ =>
    have hd : ∀ x ∈ [a, b, c], isDig x = true := by
      intro x hx
      cases hx' : isDig x with
      | true => rfl
      | false =>
        have : numL [a, b, c] = (0, 4) := by
          unfold numL
          rw [if_neg (by simp), numGo_bad _ _ ⟨x, hx, hx'⟩]
        rw [this] at h; cases h
    have da := dig_bd a (hd a (by simp))
    have db := dig_bd b (hd b (by simp))
    have dc := dig_bd c (hd c (by simp))
    have hv : (numL [a, b, c]).1 = (a.toNat - 48) * 100 + (b.toNat - 48) * 10 + (c.toNat - 48) := by
      unfold numL
      rw [if_neg (by simp), numGo_val _ _ hd]
      have e : valFrom 0 [a, b, c] = ((0 * 10 + (a.toNat - 48)) * 10 + (b.toNat - 48)) * 10 + (c.toNat - 48) := rfl
      rw [e, if_neg (by unfold maxN; omega)]
      show _ = _
      omega
    rw [hv] at h0 h1 ⊢
    rw [digL_three _ h0 h1]
    have e1 : ((a.toNat - 48) * 100 + (b.toNat - 48) * 10 + (c.toNat - 48)) / 100 = a.toNat - 48 := by omega
    have e2 : ((a.toNat - 48) * 100 + (b.toNat - 48) * 10 + (c.toNat - 48)) / 10 % 10 = b.toNat - 48 := by omega
    have e3 : ((a.toNat - 48) * 100 + (b.toNat - 48) * 10 + (c.toNat - 48)) % 10 = c.toNat - 48 := by omega
    rw [e1, e2, e3]
    have f : ∀ x : UInt8, 48 ≤ x.toNat → UInt8.ofNat (48 + (x.toNat - 48)) = x := fun x hx => by
      rw [show 48 + (x.toNat - 48) = x.toNat by omega]; exact UInt8.ofNat_toNat
    rw [f a da.1, f b db.1, f c dc.1]
theorem dig_ne (l : Bs) (h : l.all isDig = true) (c : UInt8) (hc : isDig c = false) : ∀ x ∈ l, x ≠ c := all_ne isDig l h c hc

theorem vText_ne (m : Nat) (h : m = 0 ∨ m = 1) : ∀ x ∈ vText m, x ≠ (32 : UInt8) := by
  rcases h with rfl | rfl <;> decide
theorem sta_line (m n : Nat) (r : Bs) (hm : m = 0 ∨ m = 1) (hr : sIn n r = true) :
    sOk (staLine m n r) = true ∧ staM (staLine m n r) = m ∧ staN (staLine m n r) = n ∧ staR (staLine m n r) = r ∧ staE (staLine m n r) = 0 := by
  have hr' := hr
  unfold sIn at hr'
  simp only [Bool.and_eq_true, decide_eq_true_eq] at hr'
  obtain ⟨⟨h0, h1⟩, hr2⟩ := hr'
  have c1 : cutL 32 (staLine m n r) = (vText m, digL n ++ 32 :: r, true) := cutL_at 32 _ _ (vText_ne m hm)
  have c2 : cutL 32 (digL n ++ 32 :: r) = (digL n, r, true) := cutL_at 32 _ _ (dig_ne _ (digs_all n) 32 (by decide))
  obtain ⟨v1, v2⟩ := vText_ok m hm
  have hnum := num_digL n (by unfold maxN; omega)
  have hlen : (digL n).length = 3 := by rw [digL_three n h0 h1]; rfl
  have e1 : sV (staLine m n r) = vText m := by unfold sV; rw [c1]
  have e2 : sD (staLine m n r) = digL n := by unfold sD; rw [c1]; simp only [c2]
  have e3 : sR (staLine m n r) = r := by unfold sR; rw [c1]; simp only [c2]
  have e4 : sB (staLine m n r) = true := by unfold sB; rw [c1]; simp only [c2]
  have hs : sOk (staLine m n r) = true := by
    unfold sOk
    rw [e1, e2, e3, e4, v1, hnum, hlen, hr]; rfl
  refine ⟨hs, ?_, ?_, ?_, ?_⟩
  · unfold staM; rw [if_pos hs, e1]; exact v2
  · unfold staN; rw [if_pos hs, e2, hnum]
  · unfold staR; rw [if_pos hs]; exact e3
  · unfold staE; rw [if_pos hs]
theorem sta_is (l : Bs) (h : sOk l = true) : l = staLine (staM l) (staN l) (staR l) ∧ (staM l = 0 ∨ staM l = 1) ∧ sIn (staN l) (staR l) = true := by
  have e1 : staM l = vMi (sV l) := by unfold staM; rw [if_pos h]
  have e2 : staN l = (numL (sD l)).1 := by unfold staN; rw [if_pos h]
  have e3 : staR l = sR l := by unfold staR; rw [if_pos h]
  rw [e1, e2, e3]
  have h' := h
  unfold sOk at h'
  simp only [Bool.and_eq_true, decide_eq_true_eq] at h'
  obtain ⟨⟨⟨⟨hv, hn⟩, hl⟩, hb⟩, hin⟩ := h'
  obtain ⟨hm, hvt⟩ := vSt_zero _ hv
  refine ⟨?_, hm, hin⟩
  have hin' := hin
  unfold sIn at hin'
  simp only [Bool.and_eq_true, decide_eq_true_eq] at hin'
  have hd := num_three_dig (sD l) hl hn hin'.1.1 hin'.1.2
  have s1 := cut_split 32 l
  have s2 := cut_split 32 (cutL 32 l).2.1
  have f1 : (cutL 32 l).2.2 = true := by
    cases hf : (cutL 32 l).2.2 with
    | true => rfl
    | false =>
      have := cut_nil_of 32 l hf
      unfold sB at hb
      rw [this, cut_empty] at hb
      cases hb
  unfold sB at hb
  rw [if_pos f1] at s1
  rw [if_pos hb] at s2
  rw [s2] at s1
  have hd' : (cutL 32 (cutL 32 l).2.1).1 = digL (numL (sD l)).1 := hd
  have hv' : (cutL 32 l).1 = vText (vMi (sV l)) := hvt
  rw [hd', hv'] at s1
  exact s1
/-- no text is both -/
theorem not_both (l : Bs) (h : rSt l = 0) : sOk l = false := by
  cases hs : sOk l with
  | false => rfl
  | true =>
    obtain ⟨e, hm, -⟩ := sta_is l hs
    have c1 : cutL 32 l = (vText (staM l), digL (staN l) ++ 32 :: staR l, true) := by
      conv => lhs; rw [e]
      exact cutL_at 32 _ _ (vText_ne _ hm)
    obtain ⟨-, ht, -, -⟩ := req_is l h
    unfold reqM at ht
    rw [if_pos h] at ht
    unfold rM at ht
    rw [c1] at ht
    have ht' : tokL (vText (staM l)) = true := ht
    rcases hm with hm | hm <;> rw [hm] at ht' <;> exact absurd ht' (by decide)
end Tk
end Go.Proofs.YtcddkeekabafgaaGreatDoor
namespace Go.Proofs.YtcddkeekabafgaaGreatDoor
namespace Tk

def isLet (c : UInt8) : Bool := decide (65 ≤ c.toNat ∧ c.toNat ≤ 90) || decide (97 ≤ c.toNat ∧ c.toNat ≤ 122)
def marksL : Bs := [45, 46, 95, 126, 33, 36, 38, 39, 40, 41, 42, 43, 44, 59, 61, 37]
def inName (c : UInt8) : Bool := isLet c || isDig c || marksL.contains c
def inAddr (c : UInt8) : Bool := isDig c || decide (65 ≤ c.toNat ∧ c.toNat ≤ 70) || decide (97 ≤ c.toNat ∧ c.toNat ≤ 102) || decide (c.toNat = 58) || decide (c.toNat = 46)

/-- where the brackets of an address end; nought without brackets -/
def cIn (l : Bs) : Nat := (Lib.indexByte l 93 + 1).toNat
def hostN (l : Bs) : Bs := l.take (cIn l + (cutL 58 (l.drop (cIn l))).1.length)
def hostP (l : Bs) : Bs := (cutL 58 (l.drop (cIn l))).2.1
def brOk (n : Bs) : Bool := Lib.hasSuffix (n.drop 1) [93] && someL inAddr ((n.drop 1).take ((n.drop 1).length - 1))
def nameOk (n : Bs) : Bool := if Lib.hasPrefix n [91] then brOk n else someL inName n
def portOk (q : Bs) : Bool := decide (q.length ≤ 5) && q.all isDig
def hostL (l : Bs) : Bool := portOk (hostP l) && nameOk (hostN l)

theorem ix_none (c : UInt8) : ∀ l : Bs, (∀ x ∈ l, x ≠ c) → Lib.indexByte l c = -1
  | [], _ => rfl
  | a :: t, h => by
    have h1 : (a == c) = false := beq_eq_false_iff_ne.2 (h a (by simp))
    unfold Lib.indexByte
    rw [h1, ix_none c t fun x hx => h x (by simp [hx])]
    simp
theorem ix_at (c : UInt8) (r : Bs) : ∀ a : Bs, (∀ x ∈ a, x ≠ c) → Lib.indexByte (a ++ c :: r) c = a.length
  | [], _ => by unfold Lib.indexByte; simp
  | b :: t, h => by
    have h1 : (b == c) = false := beq_eq_false_iff_ne.2 (h b (by simp))
    rw [List.cons_append]
    unfold Lib.indexByte
    rw [h1, ix_at c r t fun x hx => h x (by simp [hx])]
    have h2 : ((t.length : Int) == -1) = false := by rw [beq_eq_false_iff_ne]; omega
    rw [h2]; simp
theorem ix_le (c : UInt8) : ∀ l : Bs, Lib.indexByte l c + 1 ≤ l.length
  | [] => by simp [Lib.indexByte]
  | a :: t => by
    have := ix_le c t
    unfold Lib.indexByte
    split
    · simp only [List.length_cons]; omega
    · split <;> simp <;> omega
theorem cIn_le (l : Bs) : cIn l ≤ l.length := by
  have := ix_le 93 l
  unfold cIn; omega

/-- a name of a host: its bytes, or an address in brackets -/
theorem name_form (n : Bs) (h : nameOk n = true) : (n.head? ≠ some 91 ∧ someL inName n = true) ∨ ∃ a, n = 91 :: (a ++ [93]) ∧ someL inAddr a = true := by
  unfold nameOk at h
  match n, h with
  | [], h => exact absurd h (by decide)
  | c :: t, h =>
    by_cases e : c = 91
    · subst e
      right
      have hp : Lib.hasPrefix (91 :: t) [91] = true := by unfold Lib.hasPrefix; simp
      rw [if_pos hp] at h
      unfold brOk at h
      rw [Bool.and_eq_true] at h
      obtain ⟨hs, ha⟩ := h
      rw [List.drop_one, List.tail_cons] at hs ha
      unfold Lib.hasSuffix at hs
      obtain ⟨a, rfl⟩ := List.isSuffixOf_iff_suffix.1 hs
      refine ⟨a, rfl, ?_⟩
      rw [List.length_append, List.length_singleton, Nat.add_sub_cancel, List.take_left] at ha
      exact ha
    · left
      have hp : Lib.hasPrefix (c :: t) [91] = false := by unfold Lib.hasPrefix; simp [List.isPrefixOf]; exact fun h => e h.symm
      rw [if_neg (by rw [hp]; simp)] at h
      exact ⟨by simpa using e, h⟩
theorem name_plain (n : Bs) (h : n.head? ≠ some 91) : nameOk n = someL inName n := by
  unfold nameOk
  rw [if_neg]
  match n, h with
  | [], _ => decide
  | c :: t, h =>
    have e : c ≠ 91 := by simpa using h
    unfold Lib.hasPrefix; simp [List.isPrefixOf]; exact fun h => e h.symm
theorem name_br (a : Bs) : nameOk (91 :: (a ++ [93])) = someL inAddr a := by
  unfold nameOk
  rw [if_pos (by unfold Lib.hasPrefix; simp)]
  unfold brOk
  rw [List.drop_one, List.tail_cons, List.length_append, List.length_singleton, Nat.add_sub_cancel, List.take_left]
  have : Lib.hasSuffix (a ++ [93]) [93] = true := by
    unfold Lib.hasSuffix; exact List.isSuffixOf_iff_suffix.2 ⟨a, rfl⟩
  rw [this, Bool.true_and]

theorem someL_all {p : UInt8 → Bool} {l : Bs} (h : someL p l = true) : l.all p = true := by
  unfold someL at h; rw [Bool.and_eq_true] at h; exact h.2
theorem port_dig {q : Bs} (h : portOk q = true) : q.all isDig = true := by
  unfold portOk at h; rw [Bool.and_eq_true] at h; exact h.2

/-- a host: a name, and perhaps a colon and a port -/
def HostG (l : Bs) (n q : Bs) (f : Bool) : Prop := l = n ++ (if f then 58 :: q else []) ∧ (f = false → q = []) ∧ nameOk n = true ∧ portOk q = true

theorem tail_no93 (q : Bs) (f : Bool) (hq : portOk q = true) : ∀ x ∈ (if f then 58 :: q else [] : Bs), x ≠ (93 : UInt8) := by
  intro x hx
  cases f
  · simp at hx
  · rcases List.mem_cons.1 hx with rfl | hx
    · decide
    · exact all_ne isDig q (port_dig hq) 93 (by decide) x hx

theorem host_cut {l n q : Bs} {f : Bool} (h : HostG l n q f) : hostN l = n ∧ hostP l = q := by
  obtain ⟨rfl, hf, hn, hq⟩ := h
  have ht := tail_no93 q f hq
  rcases name_form n hn with ⟨-, hi⟩ | ⟨a, rfl, ha⟩
  · have hi2 := someL_all hi
    have h0 : cIn (n ++ (if f then 58 :: q else [])) = 0 := by
      unfold cIn
      rw [ix_none]
      · rfl
      · intro x hx
        rcases List.mem_append.1 hx with hx | hx
        · exact all_ne inName n hi2 93 (by decide) x hx
        · exact ht x hx
    unfold hostN hostP
    rw [h0, List.drop_zero, Nat.zero_add]
    have hc : cutL 58 (n ++ (if f then 58 :: q else [])) = (n, q, f) := by
      cases f
      · simp only [Bool.false_eq_true, if_false, List.append_nil]
        rw [cut_none 58 n (all_ne inName n hi2 58 (by decide)), hf rfl]
      · simp only [if_true]
        exact cutL_at 58 n q (all_ne inName n hi2 58 (by decide))
    rw [hc]
    simp
  · have ha2 := someL_all ha
    have h0 : cIn (91 :: (a ++ [93]) ++ (if f then 58 :: q else [])) = a.length + 2 := by
      have e : 91 :: (a ++ [93]) ++ (if f then 58 :: q else [] : Bs) = (91 :: a) ++ 93 :: (if f then 58 :: q else []) := by simp
      unfold cIn
      rw [e, ix_at]
      · simp only [List.length_cons]; omega
      · intro x hx
        rcases List.mem_cons.1 hx with rfl | hx
        · decide
        · exact all_ne inAddr a ha2 93 (by decide) x hx
    have hlen : (91 :: (a ++ [93])).length = a.length + 2 := by simp
    have hd : (91 :: (a ++ [93]) ++ (if f then 58 :: q else [] : Bs)).drop (a.length + 2) = (if f then 58 :: q else []) := by
      rw [← hlen, List.drop_left]
    unfold hostN hostP
    rw [h0, hd]
    have hc : cutL 58 (if f then 58 :: q else []) = ([], q, f) := by
      cases f
      · rw [hf rfl]; rfl
      · exact cutL_at 58 [] q (by simp)
    rw [hc]
    refine ⟨?_, rfl⟩
    simp only [List.length_nil, Nat.add_zero]
    rw [← hlen, List.take_left]

theorem host_of {l n q : Bs} {f : Bool} (h : HostG l n q f) : hostL l = true := by
  obtain ⟨h1, h2⟩ := host_cut h
  obtain ⟨-, -, hn, hq⟩ := h
  unfold hostL
  rw [h1, h2, hn, hq]; rfl
theorem host_is (l : Bs) (h : hostL l = true) : ∃ f, HostG l (hostN l) (hostP l) f := by
  have hh := h
  unfold hostL at hh
  rw [Bool.and_eq_true] at hh
  refine ⟨(cutL 58 (l.drop (cIn l))).2.2, ?_, ?_, hh.2, hh.1⟩
  · have hs := cut_split 58 (l.drop (cIn l))
    unfold hostN hostP
    have e : l.take (cIn l + (cutL 58 (l.drop (cIn l))).1.length) = l.take (cIn l) ++ (cutL 58 (l.drop (cIn l))).1 := by
      rw [List.take_add]
      congr 1
      generalize hA : (cutL 58 (l.drop (cIn l))) = A at *
      rw [hs]
      exact List.take_left' rfl
    rw [e, List.append_assoc, ← hs, List.take_append_drop]
  · intro hf
    exact cut_nil_of 58 _ hf

theorem host_iff (l : Bs) : hostL l = true ↔ ∃ n q f, HostG l n q f :=
  ⟨fun h => by obtain ⟨f, hf⟩ := host_is l h; exact ⟨_, _, _, hf⟩, fun ⟨_, _, _, h⟩ => host_of h⟩

theorem split_first {a b r s : Bs} {c : UInt8} (ha : ∀ x ∈ a, x ≠ c) (hb : ∀ x ∈ b, x ≠ c) (h : a ++ c :: r = b ++ c :: s) : a = b ∧ r = s := by
  have h1 := cutL_at c a r ha
  rw [h, cutL_at c b s hb] at h1
  injection h1 with e1 e2
  injection e2 with e3 e4
  exact ⟨e1.symm, e3.symm⟩

/-- with a port -/
theorem host_port (m q : Bs) (h1 : (∀ x ∈ m, x ≠ (58 : UInt8)) ∨ m.head? = some 91) (h2 : m.head? = some 91 → m.getLast? = some 93) :
    hostL (m ++ 58 :: q) = (hostL m && portOk q) := by
  rw [Bool.eq_iff_iff, Bool.and_eq_true, host_iff, host_iff]
  constructor
  · rintro ⟨n, p, f, he, hf, hn, hp⟩
    have hm : m = n ∧ q = p ∧ f = true := by
      cases f
      · exfalso
        rw [if_neg (by simp), List.append_nil] at he
        rcases name_form n hn with ⟨h91, hi⟩ | ⟨a, rfl, ha⟩
        · exact all_ne inName n (someL_all hi) 58 (by decide) 58 (by rw [← he]; simp) rfl
        · match m, he with
          | [], he => injection he with e _; exact absurd e (by decide)
          | c :: t, he =>
            have hc : c = 91 := by injection he
            subst hc
            have hl := h2 rfl
            obtain ⟨t2, ht2⟩ := List.getLast?_eq_some_iff.1 hl
            have hmem : (93 : UInt8) ∈ a := by
              have ht : t ++ 58 :: q = a ++ [93] := by injection he
              match t2, ht2 with
              | [], ht2 => injection ht2 with e _; exact absurd e (by decide)
              | d :: t3, ht2 =>
                have ht3 : t = t3 ++ [93] := by injection ht2
                rw [ht3, List.append_assoc] at ht
                rcases List.eq_nil_or_concat q with hq | ⟨q', z, hq⟩
                · subst hq
                  have := congrArg List.getLast? ht
                  simp at this
                · rw [List.concat_eq_append] at hq
                  subst hq
                  have e2 : t3 ++ ([93] ++ 58 :: (q' ++ [z])) = (t3 ++ 93 :: 58 :: q') ++ [z] := by simp
                  rw [e2] at ht
                  have := List.append_inj' ht rfl
                  rw [← this.1]; simp
            exact all_ne inAddr a (someL_all ha) 93 (by decide) 93 hmem rfl
      · rw [if_pos rfl] at he
        rcases name_form n hn with ⟨h91, hi⟩ | ⟨a, rfl, ha⟩
        · have hn58 := all_ne inName n (someL_all hi) 58 (by decide)
          rcases h1 with h1 | h1
          · obtain ⟨e1, e2⟩ := split_first h1 hn58 he
            exact ⟨e1, e2, rfl⟩
          · exfalso
            match m, h1 with
            | c :: t, h1 =>
              have hc : c = 91 := by simpa using h1
              subst hc
              match n, hi with
              | d :: n', hi =>
                have hd : (91 : UInt8) = d := by injection he
                subst hd
                exact h91 rfl
        · match m, he with
          | [], he => injection he with e _; exact absurd e (by decide)
          | c :: t, he =>
            have hc : c = 91 := by injection he
            subst hc
            obtain ⟨t2, ht2⟩ := List.getLast?_eq_some_iff.1 (h2 rfl)
            have ht : t ++ 58 :: q = a ++ 93 :: 58 :: p := by
              have : t ++ 58 :: q = (a ++ [93]) ++ 58 :: p := by injection he
              rw [this]; simp
            match t2, ht2 with
            | [], ht2 => injection ht2 with e _; exact absurd e (by decide)
            | d :: t3, ht2 =>
              have ht3 : t = t3 ++ [93] := by injection ht2
              have ha93 := all_ne inAddr a (someL_all ha) 93 (by decide)
              by_cases hin : ∀ x ∈ t3, x ≠ (93 : UInt8)
              · rw [ht3, List.append_assoc] at ht
                obtain ⟨e1, e2⟩ := split_first hin ha93 ht
                injection e2 with _ e3
                subst e1 e3 ht3
                exact ⟨by simp, rfl, rfl⟩
              · exfalso
                have hin : (93 : UInt8) ∈ t3 := by
                  apply Classical.byContradiction
                  intro hno
                  exact hin fun x hx e => hno (e ▸ hx)
                obtain ⟨u, v, huv, hu⟩ : ∃ u v, t3 = u ++ 93 :: v ∧ ∀ x ∈ u, x ≠ (93 : UInt8) := by
                  have hs := cut_split 93 t3
                  have hf : (cutL 93 t3).2.2 = true := by unfold cutL; rw [if_pos (by simpa using hin)]
                  rw [if_pos hf] at hs
                  exact ⟨_, _, hs, cut_first 93 t3⟩
                rw [ht3, huv] at ht
                have e4 : u ++ 93 :: v ++ [93] ++ 58 :: q = u ++ 93 :: (v ++ [93] ++ 58 :: q) := by simp
                rw [e4] at ht
                obtain ⟨-, e2⟩ := split_first hu ha93 ht
                have hp93 : ∀ x ∈ (58 :: p : Bs), x ≠ (93 : UInt8) := by
                  have := tail_no93 p true hp
                  rw [if_pos rfl] at this
                  exact this
                exact hp93 93 (by rw [← e2]; simp) rfl
    obtain ⟨rfl, rfl, rfl⟩ := hm
    exact ⟨⟨m, [], false, by simp, fun _ => rfl, hn, rfl⟩, hp⟩
  · rintro ⟨⟨n, p, f, he, hf, hn, hp⟩, hq⟩
    cases f
    · rw [if_neg (by simp), List.append_nil] at he
      subst he
      exact ⟨m, q, true, by simp, by simp, hn, hq⟩
    · exfalso
      rw [if_pos rfl] at he
      subst he
      rcases h1 with h1 | h1
      · exact h1 58 (by simp) rfl
      · have hl := h2 h1
        have hp' : (n ++ 58 :: p).getLast? = (58 :: p).getLast? := by
          rw [List.getLast?_append]
          simp [List.getLast?_cons]
        rw [hp'] at hl
        have hm : (93 : UInt8) ∈ (58 :: p : Bs) := List.mem_of_getLast? hl
        have := tail_no93 p true hp
        rw [if_pos rfl] at this
        exact this 93 hm rfl

theorem lowB_cases (c : UInt8) : (lowB c = c ∧ ¬ (65 ≤ c.toNat ∧ c.toNat ≤ 90)) ∨ (65 ≤ c.toNat ∧ c.toNat ≤ 90 ∧ (lowB c).toNat = c.toNat + 32) := by
  by_cases h : 65 ≤ c.toNat ∧ c.toNat ≤ 90
  · right
    have := lowB_up c h.1 h.2
    exact ⟨h.1, h.2, by omega⟩
  · exact .inl ⟨lowB_same c h, h⟩
theorem low_all (p : UInt8 → Bool) (hp : ∀ c, p (lowB c) = p c) (l : Bs) : (lowL l).all p = l.all p := by
  unfold lowL; rw [List.all_map]; congr 1; funext c; exact hp c
theorem u8_all (p : UInt8 → Bool) (h : ((List.range 256).all fun n => p (UInt8.ofNat n)) = true) (c : UInt8) : p c = true := by
  have := List.all_eq_true.1 h c.toNat (by simp; exact c.toNat_lt)
  rwa [UInt8.ofNat_toNat] at this
theorem inName_low (c : UInt8) : inName (lowB c) = inName c := by
  have := u8_all (fun c => inName (lowB c) == inName c) (by decide +kernel) c
  simpa using this
theorem inAddr_low (c : UInt8) : inAddr (lowB c) = inAddr c := by
  have := u8_all (fun c => inAddr (lowB c) == inAddr c) (by decide +kernel) c
  simpa using this
theorem isDig_low (c : UInt8) : isDig (lowB c) = isDig c := by
  have := u8_all (fun c => isDig (lowB c) == isDig c) (by decide +kernel) c
  simpa using this
theorem low_is (d : UInt8) (hd : d = 58 ∨ d = 91 ∨ d = 93) (c : UInt8) : lowB c = d ↔ c = d := by
  have h : (decide (lowB c = d) == decide (c = d)) = true := by
    rcases hd with rfl | rfl | rfl
    · exact u8_all (fun c => decide (lowB c = 58) == decide (c = 58)) (by decide +kernel) c
    · exact u8_all (fun c => decide (lowB c = 91) == decide (c = 91)) (by decide +kernel) c
    · exact u8_all (fun c => decide (lowB c = 93) == decide (c = 93)) (by decide +kernel) c
  simpa using h
theorem some_low (p : UInt8 → Bool) (hp : ∀ c, p (lowB c) = p c) (l : Bs) : someL p (lowL l) = someL p l := by
  unfold someL
  rw [low_all p hp]
  congr 1
  cases l <;> rfl
theorem name_low (n : Bs) (h : nameOk n = true) : nameOk (lowL n) = true := by
  rcases name_form n h with ⟨h91, hi⟩ | ⟨a, rfl, ha⟩
  · rw [name_plain]
    · rw [some_low inName inName_low]; exact hi
    · intro e
      match n, e with
      | c :: t, e =>
        have : lowB c = 91 := by simpa [lowL] using e
        exact h91 (by simpa using (low_is 91 (by decide) c).1 this)
  · have e : lowL (91 :: (a ++ [93])) = 91 :: (lowL a ++ [93]) := by simp [lowL]; decide
    rw [e, name_br, some_low inAddr inAddr_low]; exact ha
theorem name_unlow (n : Bs) (h : nameOk (lowL n) = true) : nameOk n = true := by
  by_cases h91 : n.head? = some 91
  · match n, h91 with
    | c :: t, h91 =>
      have hc : c = 91 := by simpa using h91
      subst hc
      rcases name_form _ h with ⟨h', -⟩ | ⟨a, he, ha⟩
      · exact absurd rfl h'
      · have ht : lowL t = a ++ [93] := by
          have : lowL (91 :: t) = 91 :: lowL t := rfl
          rw [this] at he
          injection he
        obtain ⟨t1, t2, rfl, e1, e2⟩ := List.map_eq_append_iff.1 ht
        have ht2 : t2 = [93] := by
          have hl : t2.length = 1 := by have := congrArg List.length e2; simpa using this
          obtain ⟨x, rfl⟩ := List.length_eq_one_iff.1 hl
          have : lowB x = 93 := by simpa using e2
          rw [(low_is 93 (by decide) x).1 this]
        subst ht2
        rw [name_br, ← some_low inAddr inAddr_low]
        have e1' : lowL t1 = a := e1
        rw [e1']; exact ha
  · rw [name_plain n h91, ← some_low inName inName_low]
    rw [name_plain] at h
    · exact h
    · intro e
      match n, e with
      | c :: t, e =>
        have : lowB c = 91 := by simpa [lowL] using e
        exact h91 (by simpa using (low_is 91 (by decide) c).1 this)
theorem port_low (q : Bs) : portOk (lowL q) = portOk q := by
  unfold portOk; rw [low_all isDig isDig_low, length_lowL]
theorem host_low (l : Bs) : hostL (lowL l) = hostL l := by
  rw [Bool.eq_iff_iff, host_iff, host_iff]
  constructor
  · rintro ⟨n, q, f, he, hf, hn, hq⟩
    obtain ⟨n', r, rfl, e1, e2⟩ := List.map_eq_append_iff.1 he
    have e1' : lowL n' = n := e1
    subst e1'
    cases f
    · rw [if_neg (by simp)] at e2
      have : r = [] := by simpa using e2
      subst this
      exact ⟨n', [], false, by simp, fun _ => rfl, name_unlow _ hn, rfl⟩
    · rw [if_pos rfl] at e2
      match r, e2 with
      | c :: q', e2 =>
        rw [List.map_cons] at e2
        injection e2 with ec eq
        have eq' : lowL q' = q := eq
        subst eq'
        rw [(low_is 58 (by decide) c).1 ec]
        exact ⟨n', q', true, by simp, by simp, name_unlow _ hn, by rw [← port_low]; exact hq⟩
  · rintro ⟨n, q, f, rfl, hf, hn, hq⟩
    refine ⟨lowL n, lowL q, f, ?_, fun h => by rw [hf h]; rfl, name_low n hn, by rw [port_low]; exact hq⟩
    cases f
    · simp
    · simp [lowL]; decide

/-- which bytes a host has -/
theorem name_bytes (n : Bs) (h : nameOk n = true) (p : UInt8 → Bool) (hp : ∀ c, (inName c || inAddr c || decide (c = 91) || decide (c = 93)) = true → p c = true) : n.all p = true := by
  rw [List.all_eq_true]
  intro x hx
  apply hp
  rcases name_form n h with ⟨-, hi⟩ | ⟨a, rfl, ha⟩
  · have := List.all_eq_true.1 (someL_all hi) x hx
    rw [this]; simp
  · have := List.all_eq_true.1 (someL_all ha)
    simp at hx
    rcases hx with rfl | hx | rfl
    · decide
    · rw [this x hx]; simp
    · decide
theorem host_bytes (l : Bs) (h : hostL l = true) (p : UInt8 → Bool) (hp : ∀ c, (inName c || inAddr c || decide (c = 91) || decide (c = 93)) = true → p c = true) : l.all p = true := by
  obtain ⟨n, q, f, rfl, hf, hn, hq⟩ := (host_iff l).1 h
  rw [List.all_append, name_bytes n hn p hp, Bool.true_and]
  cases f
  · rfl
  · rw [if_pos rfl, List.all_cons, hp 58 (by decide), Bool.true_and, List.all_eq_true]
    intro x hx
    apply hp
    have := List.all_eq_true.1 (port_dig hq) x hx
    unfold inName
    rw [this]; simp

theorem hb_of (p : UInt8 → Bool) (h : ((List.range 256).all fun n => !(inName (UInt8.ofNat n) || inAddr (UInt8.ofNat n) || decide (UInt8.ofNat n = 91) || decide (UInt8.ofNat n = 93)) || p (UInt8.ofNat n)) = true) (c : UInt8) (hc : (inName c || inAddr c || decide (c = 91) || decide (c = 93)) = true) : p c = true := by
  have := u8_all (fun c => !(inName c || inAddr c || decide (c = 91) || decide (c = 93)) || p c) h c
  simp only [hc] at this
  simpa using this
/-- targets -/
def connectL : Bs := [67, 79, 78, 78, 69, 67, 84]
def optionsL : Bs := [79, 80, 84, 73, 79, 78, 83]
def schemeL : Bs := [104, 116, 116, 112, 58, 47, 47]
def noEnd (c : UInt8) : Bool := !(c == 47 || c == 63)
def tHost (s : Bs) : Bs := (s.drop 7).takeWhile noEnd
def tRest (s : Bs) : Bs := (s.drop 7).dropWhile noEnd
def tPath (s : Bs) : Bs := if Lib.hasPrefix (tRest s) [47] then tRest s else 47 :: tRest s
def absOk (s : Bs) : Bool := decide (lowL (s.take 7) = schemeL) && hostL (tHost s)
def tgtOk (s : Bs) : Bool := someL vis s && !s.contains 35

/-- the form of a target, its host and its path; nought, and none, if it is refused -/
def tgt (m s : Bs) : Nat × Bs × Bs :=
  if tgtOk s = false then (0, [], [])
  else if m = connectL then (if hostP s ≠ [] ∧ hostL s = true then (3, lowL s, []) else (0, [], []))
  else if m = optionsL ∧ s = [42] then (4, [], [])
  else if s.head? = some 47 then (1, [], s)
  else if absOk s = true then (2, lowL (tHost s), tPath s) else (0, [], [])
def tgtSt (m s : Bs) : Nat := if (tgt m s).1 = 0 then 400 else 0

theorem tgt_shape (m s : Bs) : ((tgt m s).1 = 0 ∧ (tgt m s).2 = ([], [])) ∨ ((tgt m s).1 = 1 ∧ (tgt m s).2 = ([], s) ∧ s.head? = some 47 ∧ tgtOk s = true ∧ m ≠ connectL) ∨ ((tgt m s).1 = 2 ∧ (tgt m s).2.2 ≠ []) ∨ ((tgt m s).1 = 3 ∧ (tgt m s).2.2 = []) ∨ ((tgt m s).1 = 4 ∧ (tgt m s).2.2 = []) := by
  unfold tgt
  by_cases h1 : tgtOk s = false
  · rw [if_pos h1]; simp
  · rw [if_neg h1]
    by_cases h2 : m = connectL
    · rw [if_pos h2]
      split <;> simp
    · rw [if_neg h2]
      by_cases h3 : m = optionsL ∧ s = [42]
      · rw [if_pos h3]; simp
      · rw [if_neg h3]
        by_cases h4 : s.head? = some 47
        · rw [if_pos h4]
          right; left
          exact ⟨rfl, rfl, h4, by simpa using h1, h2⟩
        · rw [if_neg h4]
          by_cases h5 : absOk s = true
          · rw [if_pos h5]
            right; right; left
            refine ⟨rfl, ?_⟩
            show tPath s ≠ []
            unfold tPath
            split
            · next h =>
              intro e
              rw [e] at h
              exact absurd h (by decide)
            · simp
          · rw [if_neg h5]; simp

theorem takeWhile_app (p : UInt8 → Bool) (a b : Bs) (h : a.all p = true) : (a ++ b).takeWhile p = a ++ b.takeWhile p ∧ (a ++ b).dropWhile p = b.dropWhile p := by
  have h' : ∀ x ∈ a, p x = true := fun x hx => List.all_eq_true.1 h x hx
  exact ⟨List.takeWhile_append_of_pos h', List.dropWhile_append_of_pos h'⟩

/-- a path after a host -/
theorem tgt_abs (m pre h p : Bs) (hm : m ≠ connectL) (hpre : pre.length = 7) (hlow : lowL pre = schemeL) (hvis : pre.all vis = true) (hsh : pre.contains 35 = false) (hh : hostL h = true) (hp0 : p.head? = some 47) (hp : tgtOk p = true) :
    tgt m (pre ++ h ++ p) = (2, lowL h, p) := by
  have hv : tgtOk (pre ++ h ++ p) = true := by
    unfold tgtOk someL at hp ⊢
    simp only [Bool.and_eq_true, Bool.not_eq_true'] at hp
    have h1 := host_bytes h hh vis (hb_of vis (by decide +kernel))
    have h2 : h.contains 35 = false := by
      have := host_bytes h hh (fun c => c != 35) (hb_of _ (by decide +kernel))
      rw [List.contains_eq_any_beq]
      rw [List.any_eq_false]
      intro x hx
      have := List.all_eq_true.1 this x hx
      simp at this ⊢
      exact fun e => this e.symm
    have e : (pre ++ h ++ p).contains 35 = false := by
      rw [List.contains_eq_any_beq] at hsh h2 ⊢
      have hp2 := hp.2
      rw [List.contains_eq_any_beq] at hp2
      rw [List.any_append, List.any_append, hsh, h2, hp2]; rfl
    rw [e, List.all_append, List.all_append, hvis, h1, hp.1.2]
    match pre, hpre with
    | c :: t, _ => rfl
  have hd : (pre ++ h ++ p).drop 7 = h ++ p := by
    rw [List.append_assoc, ← hpre, List.drop_left]
  have ht : (pre ++ h ++ p).take 7 = pre := by
    rw [List.append_assoc, ← hpre, List.take_left]
  obtain ⟨p', rfl⟩ : ∃ p', p = 47 :: p' := by
    match p, hp0 with
    | c :: t, h0 => exact ⟨t, by rw [show c = 47 by simpa using h0]⟩
  have hno := host_bytes h hh noEnd (hb_of noEnd (by decide +kernel))
  obtain ⟨w1, w2⟩ := takeWhile_app noEnd h (47 :: p') hno
  have w3 : (47 :: p' : Bs).takeWhile noEnd = [] := by rw [List.takeWhile_cons]; rfl
  have w4 : (47 :: p' : Bs).dropWhile noEnd = 47 :: p' := by rw [List.dropWhile_cons]; rfl
  have e1 : tHost (pre ++ h ++ 47 :: p') = h := by unfold tHost; rw [hd, w1, w3, List.append_nil]
  have e2 : tRest (pre ++ h ++ 47 :: p') = 47 :: p' := by unfold tRest; rw [hd, w2, w4]
  have e3 : tPath (pre ++ h ++ 47 :: p') = 47 :: p' := by
    unfold tPath
    rw [e2, if_pos (by unfold Lib.hasPrefix; simp)]
  have hhead : lowL (pre ++ h ++ 47 :: p') = schemeL ++ lowL h ++ lowL (47 :: p') := by
    rw [← hlow]; simp [lowL]
  have n1 : ¬ (m = optionsL ∧ pre ++ h ++ 47 :: p' = [42]) := by
    rintro ⟨-, e⟩
    have := congrArg List.length e
    simp only [List.length_append, List.length_cons, List.length_nil] at this
    omega
  have n2 : (pre ++ h ++ 47 :: p').head? ≠ some 47 := by
    intro e
    match pre, hpre, hlow with
    | c :: t, _, hl =>
      have hc : c = 47 := by simpa using e
      subst hc
      have h1 : (lowL (47 :: t)).head? = some 47 := by simp [lowL]; decide
      rw [hl] at h1
      exact absurd h1 (by decide)
  unfold tgt
  rw [if_neg (by rw [hv]; simp), if_neg hm, if_neg n1, if_neg n2, if_pos (by unfold absOk; rw [ht, hlow, e1, hh]; rfl), e1, e3]
end Tk
end Go.Proofs.YtcddkeekabafgaaGreatDoor
namespace Go.Proofs.YtcddkeekabafgaaGreatDoor
open Go.RowKit
namespace Tk

theorem retB2 {a b : Bool} (h : a = b) : Ending.returned (.bool a) = .returned (.bool b) := by rw [h]

set_option maxHeartbeats 400000 in
theorem rDigit_any (c : UInt8) (w : World) :
    Calls Tryz.prog 60 #[.int .u8 (c.toNat : Int)] w fun e w' => e = .returned (.bool (isDig c)) ∧ w = w' := by
  have hlt := c.toNat_lt
  have HD := Lib.hid (show isDig c = (decide (48 ≤ c.toNat) && decide (c.toNat ≤ 57)) from rfl)
  generalize c.toNat = n at *
  by_cases h0 : 48 ≤ n <;> by_cases h1 : n ≤ 57
  all_goals
    first
    | omega
    | (go_enter Tryz.func60, Tryz.ntmps60
       go_wp2_with fail
       go_ret
       exact ⟨retB2 (by rw [HD.out, Bool.eq_iff_iff]; simp; omega), rfl⟩)

set_option maxHeartbeats 1000000 in
theorem rLetter_any (c : UInt8) (w : World) :
    Calls Tryz.prog 59 #[.int .u8 (c.toNat : Int)] w fun e w' => e = .returned (.bool (isLet c)) ∧ w = w' := by
  have hlt := c.toNat_lt
  have HD := Lib.hid (show isLet c = (decide (65 ≤ c.toNat ∧ c.toNat ≤ 90) || decide (97 ≤ c.toNat ∧ c.toNat ≤ 122)) from rfl)
  generalize c.toNat = n at *
  by_cases h0 : 65 ≤ n <;> by_cases h1 : n ≤ 90 <;> by_cases h2 : 97 ≤ n <;> by_cases h3 : n ≤ 122
  all_goals
    first
    | omega
    | (go_enter Tryz.func59, Tryz.ntmps59
       go_wp2_with fail
       go_ret
       exact ⟨retB2 (by rw [HD.out, Bool.eq_iff_iff]; simp; omega), rfl⟩)

set_option maxHeartbeats 1000000 in
theorem rIn_any (c : UInt8) (s : ByteArray) (w : World) (hs : s.size ≤ 1099511627776) :
    Calls Tryz.prog 61 #[.int .u8 (c.toNat : Int), .string s] w fun e w' => e = .returned (.bool ((bs s).contains c)) ∧ w = w' := by
  go_enter Tryz.func61, Tryz.ntmps61
  go_wp2_with fail
  go_loop [5] (fun v => ∃ i : Nat, i ≤ s.size ∧ v = .int .i64 i ∧ Hid ((bs s).contains c = ((bs s).drop i).contains c)) (fun v => s.size - (RowKit.intOf v).toNat)
  case atStart => exact ⟨0, Nat.zero_le _, rfl, rfl⟩
  case round =>
    obtain ⟨i, hi, rfl, hd⟩ := hrel
    by_cases hlt : i < s.size
    · have D := Lib.hid (bs_drop s i hlt)
      by_cases hc : s[i] = c
      · have e1 : ((s[i].toNat : Int) == (c.toNat : Int)) = true := by rw [hc]; simp
        have fin : (bs s).contains c = true := by rw [hd.out, D.out, List.contains_cons, hc]; simp
        have HF := Lib.hid fin
        clear fin hc
        go_wp2_with fail
        go_ret
        exact ⟨retB2 (by have h := HF.out; simp at h; simp [h]), rfl⟩
      · have e1 : ((s[i].toNat : Int) == (c.toNat : Int)) = false := by
          rw [beq_eq_false_iff_ne]
          intro e
          exact hc (UInt8.toNat_inj.1 (by omega))
        have nx : (bs s).contains c = ((bs s).drop (i + 1)).contains c := by
          rw [hd.out, D.out, List.contains_cons]
          have : (c == s[i]) = false := beq_eq_false_iff_ne.2 (fun e => hc e.symm)
          rw [this, Bool.false_or]
        have HX := Lib.hid nx
        clear nx hc
        go_wp2_with fail
        exact ⟨⟨i + 1, by omega, by go_num, HX⟩, by simp [RowKit.intOf]; omega⟩
    · have fin : (bs s).contains c = false := by rw [hd.out, List.drop_eq_nil_of_le (by rw [length_bs]; omega)]; rfl
      have HF := Lib.hid fin
      clear fin
      go_wp2_with fail
      go_ret
      exact ⟨retB2 (by have h := HF.out; simp at h; simp [h]), rfl⟩

def tmarks : Bs := [33, 35, 36, 37, 38, 39, 42, 43, 45, 46, 94, 95, 96, 124, 126]
theorem kind_tchar (c : UInt8) : decide (2 ≤ kindOf c.toNat) = (isLet c || isDig c || tmarks.contains c) := by
  have := u8_all (fun c => decide (2 ≤ kindOf c.toNat) == (isLet c || isDig c || tmarks.contains c)) (by decide +kernel) c
  simpa using this

set_option maxHeartbeats 1000000 in
theorem rTchar_any (c : UInt8) (w : World) :
    Calls Tryz.prog 40 #[.int .u8 (c.toNat : Int)] w fun e w' => e = .returned (.bool (decide (2 ≤ kindOf c.toNat))) ∧ w = w' := by
  have HL := rLetter_any c w
  have HD := rDigit_any c w
  have hx := rIn_any c ⟨#[33, 35, 36, 37, 38, 39, 42, 43, 45, 46, 94, 95, 96, 124, 126]⟩ w (by decide)
  have hx2 : Calls Tryz.prog 61 #[.int .u8 (c.toNat : Int), .string ⟨#[33, 35, 36, 37, 38, 39, 42, 43, 45, 46, 94, 95, 96, 124, 126]⟩] w fun e w' => e = .returned (.bool (tmarks.contains c)) ∧ w = w' := hx
  have HX := Lib.hid hx2
  have HN := Lib.hid (kind_tchar c)
  clear hx hx2
  generalize tmarks.contains c = tm at *
  cases hl : isLet c
  · rw [hl] at HL HN
    have HL2 := Lib.hid HL
    clear HL
    cases hd : isDig c
    · rw [hd] at HD HN
      have HD2 := Lib.hid HD
      clear HD hl hd
      go_enter Tryz.func40, Tryz.ntmps40
      go_wp2_with fail
      refine HL2.out.mono ?_
      rintro e w' ⟨rfl, rfl⟩
      go_wp2_with fail
      refine HD2.out.mono ?_
      rintro e w' ⟨rfl, rfl⟩
      go_wp2_with fail
      refine HX.out.mono ?_
      rintro e w' ⟨rfl, rfl⟩
      go_wp2_with fail
      go_ret
      exact ⟨retB2 (by rw [HN.out]; rfl), rfl⟩
    · rw [hd] at HD HN
      have HD2 := Lib.hid HD
      clear HD hl hd
      go_enter Tryz.func40, Tryz.ntmps40
      go_wp2_with fail
      refine HL2.out.mono ?_
      rintro e w' ⟨rfl, rfl⟩
      go_wp2_with fail
      refine HD2.out.mono ?_
      rintro e w' ⟨rfl, rfl⟩
      go_wp2_with fail
      go_ret
      exact ⟨retB2 (by rw [HN.out]; rfl), rfl⟩
  · rw [hl] at HL HN
    have HL2 := Lib.hid HL
    clear HL hl HD
    go_enter Tryz.func40, Tryz.ntmps40
    go_wp2_with fail
    refine HL2.out.mono ?_
    rintro e w' ⟨rfl, rfl⟩
    go_wp2_with fail
    go_ret
    exact ⟨retB2 (by rw [HN.out]; rfl), rfl⟩

set_option maxHeartbeats 1000000 in
theorem rToken_any (s : ByteArray) (w : World) (hs : s.size ≤ 1099511627776) :
    Calls Tryz.prog 18 #[.string s] w fun e w' => e = .returned (.bool (tokL (bs s))) ∧ w = w' := by
  have hV : tokL (bs s) = (!(bs s).isEmpty && allL 2 (bs s)) := rfl
  have HV := Lib.hid hV
  clear hV
  go_enter Tryz.func18, Tryz.ntmps18
  go_wp2_with fail
  go_loop [3] (fun v => ∃ i : Nat, i ≤ s.size ∧ v = .int .i64 i ∧ Hid (allL 2 (bs s) = allL 2 ((bs s).drop i))) (fun v => s.size - (RowKit.intOf v).toNat)
  case atStart => exact ⟨0, Nat.zero_le _, rfl, rfl⟩
  case round =>
    obtain ⟨i, hi, rfl, hd⟩ := hrel
    by_cases hlt : i < s.size
    · have D := Lib.hid (bs_drop s i hlt)
      have HC := rTchar_any s[i] w
      cases hk : decide (2 ≤ kindOf s[i].toNat)
      · rw [hk] at HC
        have fin : tokL (bs s) = false := by rw [HV.out, hd.out, D.out, allL_cons, hk]; simp
        have HF := Lib.hid fin
        have HC2 := Lib.hid HC
        clear fin HC hk
        go_wp2_with fail
        refine HC2.out.mono ?_
        rintro e w' ⟨rfl, rfl⟩
        go_wp2_with fail
        go_ret
        exact ⟨retB2 (by rw [HF.out]), rfl⟩
      · rw [hk] at HC
        have nx : allL 2 (bs s) = allL 2 ((bs s).drop (i + 1)) := by rw [hd.out, D.out, allL_cons, hk, Bool.true_and]
        have HX := Lib.hid nx
        have HC2 := Lib.hid HC
        clear nx HC hk
        go_wp2_with fail
        refine HC2.out.mono ?_
        rintro e w' ⟨rfl, rfl⟩
        go_wp2_with fail
        exact ⟨⟨i + 1, by omega, by go_num, HX⟩, by simp [RowKit.intOf]; omega⟩
    · have ha : allL 2 (bs s) = true := by rw [hd.out, List.drop_eq_nil_of_le (by rw [length_bs]; omega)]; rfl
      have fin : tokL (bs s) = !(bs s).isEmpty := by rw [HV.out, ha]; simp
      cases he : (bs s).isEmpty
      · have he2 : s.toList.isEmpty = false := by rw [toList_bs]; exact he
        have HF := Lib.hid (show tokL (bs s) = true by rw [fin, he]; rfl)
        clear fin ha he
        go_wp2_with fail
        go_ret
        exact ⟨retB2 (by rw [HF.out] <;> first | rfl | simp), rfl⟩
      · have he2 : s.toList.isEmpty = true := by rw [toList_bs]; exact he
        have HF := Lib.hid (show tokL (bs s) = false by rw [fin, he]; rfl)
        clear fin ha he
        go_wp2_with fail
        go_ret
        exact ⟨retB2 (by rw [HF.out] <;> first | rfl | simp), rfl⟩

theorem kind_char8 (c : UInt8) : decide (1 ≤ kindOf c.toNat) = (decide (c.toNat = 9) || (decide (32 ≤ c.toNat) && decide (c.toNat ≤ 126)) || decide (128 ≤ c.toNat)) := by
  have := u8_all (fun c => decide (1 ≤ kindOf c.toNat) == (decide (c.toNat = 9) || (decide (32 ≤ c.toNat) && decide (c.toNat ≤ 126)) || decide (128 ≤ c.toNat))) (by decide +kernel) c
  simpa using this

end Tk
end Go.Proofs.YtcddkeekabafgaaGreatDoor
namespace Go.Proofs.YtcddkeekabafgaaGreatDoor
open Go.RowKit
namespace Tk

theorem tr_consW (c : UInt8) (l : Bs) (hc : wh c = true) : trimL (c :: l) = trimL l := by
  rw [trimL_eq, trimL_eq]
  unfold tr
  rw [List.reverse_cons, dropWhile_append]
  have h1 : ([c] : Bs).dropWhile wh = [] := by rw [List.dropWhile_cons, hc, if_pos rfl]; rfl
  by_cases h : l.reverse.dropWhile wh = []
  · rw [if_pos h, h, h1]
  · rw [if_neg h, List.reverse_append]
    show (c :: (l.reverse.dropWhile wh).reverse).dropWhile wh = _
    rw [List.dropWhile_cons, hc, if_pos rfl]
theorem tr_snocW (c : UInt8) (l : Bs) (hc : wh c = true) : trimL (l ++ [c]) = trimL l := by
  rw [trimL_eq, trimL_eq]
  congr 1
  unfold tr
  rw [List.reverse_append]
  show ((c :: l.reverse).dropWhile wh).reverse = _
  rw [List.dropWhile_cons, hc, if_pos rfl]
theorem wh_of (c : UInt8) : wh c = (decide (c.toNat = 32) || decide (c.toNat = 9)) := by
  have := u8_all (fun c => wh c == (decide (c.toNat = 32) || decide (c.toNat = 9))) (by decide +kernel) c
  simpa using this

set_option maxHeartbeats 400000 in
theorem rWhite_any (c : UInt8) (w : World) :
    Calls Tryz.prog 72 #[.int .u8 (c.toNat : Int)] w fun e w' => e = .returned (.bool (wh c)) ∧ w = w' := by
  have HD := Lib.hid (wh_of c)
  generalize wh c = b at *
  generalize c.toNat = n at *
  by_cases h0 : n = 32
  · have e0 : ((n : Int) == 32) = true := by rw [beq_iff_eq]; omega
    have H0 := Lib.hid h0
    clear h0
    go_enter Tryz.func72, Tryz.ntmps72
    go_wp2_with fail
    go_ret
    exact ⟨retB2 (by rw [HD.out, H0.out]; simp), rfl⟩
  · have e0 : ((n : Int) == 32) = false := by rw [beq_eq_false_iff_ne]; omega
    have hd := HD.out
    rw [decide_eq_false h0, Bool.false_or] at hd
    have HD2 := Lib.hid hd
    by_cases h1 : n = 9
    · have e1 : ((n : Int) == 9) = true := by rw [beq_iff_eq]; omega
      have HD3 := Lib.hid (show b = true by rw [hd, decide_eq_true h1])
      clear h0 h1 hd HD HD2
      go_enter Tryz.func72, Tryz.ntmps72
      go_wp2_with fail
      go_ret
      exact ⟨retB2 (by rw [HD3.out] <;> first | rfl | simp), rfl⟩
    · have e1 : ((n : Int) == 9) = false := by rw [beq_eq_false_iff_ne]; omega
      have HD3 := Lib.hid (show b = false by rw [hd, decide_eq_false h1])
      clear h0 h1 hd HD HD2
      go_enter Tryz.func72, Tryz.ntmps72
      go_wp2_with fail
      go_ret
      exact ⟨retB2 (by rw [HD3.out] <;> first | rfl | simp), rfl⟩

set_option maxHeartbeats 4000000 in
set_option maxRecDepth 100000 in
theorem rTrim_any (s : ByteArray) (w : World) (hs : s.size ≤ 1099511627776) :
    Calls Tryz.prog 62 #[.string s] w fun e w' => e = .returned (.string (mkS (trimL (bs s)))) ∧ w = w' := by
  go_enter Tryz.func62, Tryz.ntmps62
  go_wp2_with fail
  go_loop [0] (fun vs => ∃ t : ByteArray, vs = .string t ∧ t.size ≤ s.size ∧ Hid (trimL (bs t) = trimL (bs s))) (fun vs => match vs with | .string t => t.size | _ => 0)
  case atStart => exact ⟨s, rfl, Nat.le_refl _, rfl⟩
  case round =>
    obtain ⟨t, rfl, htz, hT⟩ := hrel
    have second : ∀ (c1 : t.size = 0 ∨ ∃ h : 0 < t.size, wh t[0] = false), ∀ c, (bs t).head? = some c → wh c = false := by
      rintro (h | ⟨h, h'⟩) c hc
      · have : bs t = [] := List.eq_nil_of_length_eq_zero (by rw [length_bs]; exact h)
        rw [this] at hc; cases hc
      · rw [bs_head t h] at hc
        injection hc with hc
        rw [← hc]; exact h'
    have hcase : t.size = 0 ∨ (0 < t.size ∧ ((∃ h : 0 < t.size, wh t[0] = false) ∨ ∃ h : 0 < t.size, wh t[0] = true)) := by
      by_cases hz : t.size = 0
      · exact .inl hz
      · right
        have hp : 0 < t.size := by omega
        refine ⟨hp, ?_⟩
        cases h : wh t[0]
        · exact .inl ⟨hp, h⟩
        · exact .inr ⟨hp, h⟩
    have HSec := Lib.hid second
    clear second
    rcases hcase with hz | ⟨hp, ⟨hp', hw⟩ | ⟨hp', hw⟩⟩
    · have he := empty_of t hz
      have HHd := Lib.hid (HSec.out (.inl hz))
      clear hz
      go_wp2_with fail
      go_loop [0] (fun vs => ∃ u : ByteArray, vs = .string u ∧ u.size ≤ s.size ∧ Hid (trimL (bs u) = trimL (bs s)) ∧ Hid (∀ c, (bs u).head? = some c → wh c = false)) (fun vs => match vs with | .string t => t.size | _ => 0)
      case atStart => exact ⟨t, rfl, htz, hT, HHd⟩
      case round =>
        obtain ⟨u, rfl, huz, hU, hH⟩ := hrel
        by_cases hz : u.size = 0
        · have he2 := empty_of u hz
          have hnil : bs u = [] := List.eq_nil_of_length_eq_zero (by rw [length_bs]; exact hz)
          have HF := Lib.hid (show mkS (trimL (bs s)) = u by rw [← hU.out, hnil]; exact (show mkS [] = u by rw [← hnil, mkS_bs]))
          clear hz hnil
          go_wp2_with fail
          go_ret
          exact ⟨by rw [HF.out]; rfl, rfl⟩
        · have hup : 0 < u.size := by omega
          have he2 := not_empty_of u hup
          have hul : u.size - 1 < u.size := by omega
          have k1 : IntKind.i64.wrap ((u.size : Int) - 1) = ((u.size - 1 : Nat) : Int) := by rw [IntWalk.i64_in _ (by omega)]; omega
          have k2 : ((u.size : Int) - 1).toNat = u.size - 1 := by omega
          have hsp : bs u = (bs u).take (u.size - 1) ++ [u[u.size - 1]'hul] := by
            have h1 := take_snoc (bs u) (u.size - 1) (by rw [length_bs]; exact hul)
            rw [getD_bs u _ hul, show u.size - 1 + 1 = u.size by omega, List.take_of_length_le (by rw [length_bs]; exact Nat.le_refl _)] at h1
            exact h1
          have HC := rWhite_any (u[u.size - 1]'hul) w
          cases hl : wh (u[u.size - 1]'hul)
          · rw [hl] at HC
            have hneat : Neat (bs u) := ⟨hH.out, fun c hc => by
              rw [hsp, List.getLast?_append] at hc
              simp at hc
              rw [← hc]; exact hl⟩
            have HF := Lib.hid (show mkS (trimL (bs s)) = u by rw [← hU.out, neat_trim _ hneat, mkS_bs])
            have HC2 := Lib.hid HC
            clear HC hl hsp hneat hz
            go_wp2_with fail
            refine HC2.out.mono ?_
            rintro e w' ⟨rfl, rfl⟩
            go_wp2_with fail
            go_ret
            exact ⟨by rw [HF.out]; rfl, rfl⟩
          · rw [hl] at HC
            have hbu : bs (u.extract 0 (u.size - 1)) = (bs u).take (u.size - 1) := by rw [bs_extract]; simp
            have hzu : (u.extract 0 (u.size - 1)).size = u.size - 1 := by rw [← length_bs, hbu, List.length_take, length_bs]; omega
            have hU2 : Hid (trimL (bs (u.extract 0 (u.size - 1))) = trimL (bs s)) := by
              show _ = _
              rw [hbu, ← hU.out]
              conv => rhs; rw [hsp]
              rw [tr_snocW _ _ hl]
            have hH2 : Hid (∀ c, (bs (u.extract 0 (u.size - 1))).head? = some c → wh c = false) := by
              intro c hc
              refine hH.out c ?_
              rw [hbu] at hc
              rw [hsp]
              cases hq : (bs u).take (u.size - 1) with
              | nil => rw [hq] at hc; cases hc
              | cons a q => rw [hq] at hc; exact hc
            have HZU := Lib.hid hzu
            have HC2 := Lib.hid HC
            clear HC hl hsp hbu hzu hz
            go_wp2_with fail
            refine HC2.out.mono ?_
            rintro e w' ⟨rfl, rfl⟩
            go_wp2_with fail
            exact ⟨⟨u.extract 0 (u.size - 1), rfl, by rw [HZU.out]; omega, hU2, hH2⟩, by show (u.extract 0 (u.size - 1)).size < u.size; rw [HZU.out]; omega⟩
    · have he := not_empty_of t hp
      have hp2 : (0 : Int) < (t.size : Int) := by omega
      have HHd := Lib.hid (HSec.out (.inr ⟨hp', hw⟩))
      have HC0 := rWhite_any t[0] w
      rw [hw] at HC0
      have HC1 := Lib.hid HC0
      clear HC0 hw
      go_wp2_with fail
      refine HC1.out.mono ?_
      rintro e w' ⟨rfl, rfl⟩
      go_wp2_with fail
      go_loop [0] (fun vs => ∃ u : ByteArray, vs = .string u ∧ u.size ≤ s.size ∧ Hid (trimL (bs u) = trimL (bs s)) ∧ Hid (∀ c, (bs u).head? = some c → wh c = false)) (fun vs => match vs with | .string t => t.size | _ => 0)
      case atStart => exact ⟨t, rfl, htz, hT, HHd⟩
      case round =>
        obtain ⟨u, rfl, huz, hU, hH⟩ := hrel
        by_cases hz : u.size = 0
        · have he2 := empty_of u hz
          have hnil : bs u = [] := List.eq_nil_of_length_eq_zero (by rw [length_bs]; exact hz)
          have HF := Lib.hid (show mkS (trimL (bs s)) = u by rw [← hU.out, hnil]; exact (show mkS [] = u by rw [← hnil, mkS_bs]))
          clear hz hnil
          go_wp2_with fail
          go_ret
          exact ⟨by rw [HF.out]; rfl, rfl⟩
        · have hup : 0 < u.size := by omega
          have he2 := not_empty_of u hup
          have hul : u.size - 1 < u.size := by omega
          have k1 : IntKind.i64.wrap ((u.size : Int) - 1) = ((u.size - 1 : Nat) : Int) := by rw [IntWalk.i64_in _ (by omega)]; omega
          have k2 : ((u.size : Int) - 1).toNat = u.size - 1 := by omega
          have hsp : bs u = (bs u).take (u.size - 1) ++ [u[u.size - 1]'hul] := by
            have h1 := take_snoc (bs u) (u.size - 1) (by rw [length_bs]; exact hul)
            rw [getD_bs u _ hul, show u.size - 1 + 1 = u.size by omega, List.take_of_length_le (by rw [length_bs]; exact Nat.le_refl _)] at h1
            exact h1
          have HC := rWhite_any (u[u.size - 1]'hul) w
          cases hl : wh (u[u.size - 1]'hul)
          · rw [hl] at HC
            have hneat : Neat (bs u) := ⟨hH.out, fun c hc => by
              rw [hsp, List.getLast?_append] at hc
              simp at hc
              rw [← hc]; exact hl⟩
            have HF := Lib.hid (show mkS (trimL (bs s)) = u by rw [← hU.out, neat_trim _ hneat, mkS_bs])
            have HC2 := Lib.hid HC
            clear HC hl hsp hneat hz
            go_wp2_with fail
            refine HC2.out.mono ?_
            rintro e w' ⟨rfl, rfl⟩
            go_wp2_with fail
            go_ret
            exact ⟨by rw [HF.out]; rfl, rfl⟩
          · rw [hl] at HC
            have hbu : bs (u.extract 0 (u.size - 1)) = (bs u).take (u.size - 1) := by rw [bs_extract]; simp
            have hzu : (u.extract 0 (u.size - 1)).size = u.size - 1 := by rw [← length_bs, hbu, List.length_take, length_bs]; omega
            have hU2 : Hid (trimL (bs (u.extract 0 (u.size - 1))) = trimL (bs s)) := by
              show _ = _
              rw [hbu, ← hU.out]
              conv => rhs; rw [hsp]
              rw [tr_snocW _ _ hl]
            have hH2 : Hid (∀ c, (bs (u.extract 0 (u.size - 1))).head? = some c → wh c = false) := by
              intro c hc
              refine hH.out c ?_
              rw [hbu] at hc
              rw [hsp]
              cases hq : (bs u).take (u.size - 1) with
              | nil => rw [hq] at hc; cases hc
              | cons a q => rw [hq] at hc; exact hc
            have HZU := Lib.hid hzu
            have HC2 := Lib.hid HC
            clear HC hl hsp hbu hzu hz
            go_wp2_with fail
            refine HC2.out.mono ?_
            rintro e w' ⟨rfl, rfl⟩
            go_wp2_with fail
            exact ⟨⟨u.extract 0 (u.size - 1), rfl, by rw [HZU.out]; omega, hU2, hH2⟩, by show (u.extract 0 (u.size - 1)).size < u.size; rw [HZU.out]; omega⟩
    · have he := not_empty_of t hp
      have hp2 : (0 : Int) < (t.size : Int) := by omega
      have hp1 : (1 : Int) ≤ (t.size : Int) := by omega
      have HC0 := rWhite_any t[0] w
      rw [hw] at HC0
      have HC1 := Lib.hid HC0
      have hbt : bs (t.extract 1 t.size) = (bs t).drop 1 := by
        rw [bs_extract, List.take_of_length_le (by rw [List.length_drop, length_bs]; exact Nat.le_refl _)]
      have hzt : (t.extract 1 t.size).size = t.size - 1 := by rw [← length_bs, hbt, List.length_drop, length_bs]
      have hT2 : Hid (trimL (bs (t.extract 1 t.size)) = trimL (bs s)) := by
        show _ = _
        have h1 := bs_drop t 0 hp
        rw [List.drop_zero] at h1
        rw [hbt, ← hT.out]
        conv => rhs; rw [h1]
        rw [tr_consW _ _ hw]
      have HZT := Lib.hid hzt
      clear HC0 hw hbt hzt
      go_wp2_with fail
      refine HC1.out.mono ?_
      rintro e w' ⟨rfl, rfl⟩
      go_wp2_with fail
      exact ⟨⟨t.extract 1 t.size, rfl, by rw [HZT.out]; omega, hT2⟩, by show (t.extract 1 t.size).size < t.size; rw [HZT.out]; omega⟩
end Tk
end Go.Proofs.YtcddkeekabafgaaGreatDoor
namespace Go.Proofs.YtcddkeekabafgaaGreatDoor
open Go.RowKit
namespace Tk

def spQ (q : Bool) (l : Bs) (b i : Nat) : List Bs := parts (spl (if q then 1 else 0) ((l.take i).drop b) (l.drop i))
def rest (l : Bs) (b : Nat) : List Bs := if b < l.length then addP (trimL (l.drop b)) else []
theorem spQ_start (l : Bs) : splitL l = spQ false l 0 0 := by simp [spQ, splitL]
theorem spQ_end (q : Bool) (l : Bs) (b i : Nat) (h : l.length ≤ i) : spQ q l b i = addP (trimL (l.drop b)) := by
  unfold spQ
  rw [List.take_of_length_le h, List.drop_eq_nil_of_le h]
  cases q <;> simp [spl, parts_one]
theorem spQ_esc (l : Bs) (b i : Nat) (hi : i + 1 < l.length) (hb : b ≤ i) (hc : l.getD i 0 = 92) : spQ true l b i = spQ true l b (i + 1 + 1) := by
  unfold spQ
  rw [if_pos rfl, drop_cons l i (by omega), hc, spl, if_pos rfl, drop_cons l (i + 1) hi, spl, take_snoc l (i + 1) hi, take_snoc l i (by omega), List.append_assoc, List.append_assoc, List.drop_append_of_le_length (by rw [List.length_take]; omega), hc]
theorem spQ_last (l : Bs) (b i : Nat) (hi : i + 1 = l.length) (hb : b ≤ i) (hc : l.getD i 0 = 92) : spQ true l b i = addP (trimL (l.drop b)) := by
  unfold spQ
  have e : l.drop b = (l.take i).drop b ++ [92] := by
    have h1 : l.take (i + 1) = l := List.take_of_length_le (by omega)
    rw [take_snoc l i (by omega), hc] at h1
    rw [← List.drop_append_of_le_length (by rw [List.length_take]; omega), h1]
  have e2 : l.drop (i + 1) = [] := List.drop_eq_nil_of_le (by omega)
  have e3 : ∀ c : Bs, spl 2 c [] = [c] := fun c => by simp [spl]
  rw [if_pos rfl, drop_cons l i (by omega), hc, spl, if_pos rfl, e2, e3, parts_one, e]
theorem spQ_close (l : Bs) (b i : Nat) (hi : i < l.length) (hb : b ≤ i) (hc : l.getD i 0 = 34) : spQ true l b i = spQ false l b (i + 1) := by
  unfold spQ
  rw [if_pos rfl, if_neg (by decide), drop_cons l i hi, hc, spl, if_neg (by decide), if_pos rfl, take_snoc l i hi, List.drop_append_of_le_length (by rw [List.length_take]; omega), hc]
theorem spQ_in (l : Bs) (b i : Nat) (hi : i < l.length) (hb : b ≤ i) (h1 : l.getD i 0 ≠ 92) (h2 : l.getD i 0 ≠ 34) : spQ true l b i = spQ true l b (i + 1) := by
  unfold spQ
  rw [if_pos rfl, drop_cons l i hi, spl, if_neg h1, if_neg h2, take_snoc l i hi, List.drop_append_of_le_length (by rw [List.length_take]; omega)]
theorem spQ_open (l : Bs) (b i : Nat) (hi : i < l.length) (hb : b ≤ i) (hc : l.getD i 0 = 34) : spQ false l b i = spQ true l b (i + 1) := by
  unfold spQ
  rw [if_neg (by decide), if_pos rfl, drop_cons l i hi, hc, spl, if_neg (by decide), if_pos rfl, take_snoc l i hi, List.drop_append_of_le_length (by rw [List.length_take]; omega), hc]
theorem spQ_out (l : Bs) (b i : Nat) (hi : i < l.length) (hb : b ≤ i) (h1 : l.getD i 0 ≠ 44) (h2 : l.getD i 0 ≠ 34) : spQ false l b i = spQ false l b (i + 1) := by
  unfold spQ
  rw [if_neg (by decide), drop_cons l i hi, spl, if_neg h1, if_neg h2, take_snoc l i hi, List.drop_append_of_le_length (by rw [List.length_take]; omega)]
theorem spQ_comma (l : Bs) (b i : Nat) (hi : i < l.length) (hc : l.getD i 0 = 44) : spQ false l b i = addP (trimL ((l.drop b).take (i - b))) ++ spQ false l (i + 1) (i + 1) := by
  unfold spQ
  rw [if_neg (by decide), drop_cons l i hi, hc, spl, if_pos rfl, parts_cons, List.drop_take, List.drop_take, Nat.sub_self, List.take_zero]
theorem rest_past (l : Bs) (b : Nat) (h : l.length ≤ b) : rest l b = [] := by unfold rest; rw [if_neg (by omega)]
theorem rest_left (l : Bs) (b : Nat) (h : b < l.length) : rest l b = addP (trimL (l.drop b)) := by unfold rest; rw [if_pos h]
theorem u8_eqb (c : UInt8) (n : Nat) (hn : n < 256) (h : ((c.toNat : Int) == n) = true) : c = UInt8.ofNat n := u8_is c n hn h

set_option maxHeartbeats 16000000 in
set_option maxRecDepth 100000 in
theorem rSplit_any (s : ByteArray) (w : World) (hs : s.size ≤ 1099511627776) :
    Calls Tryz.prog 41 #[.string s] w (ListPost w.heap.size (splitL (bs s)) w) := by
  obtain ⟨i0, hi0, hz0, hz1, hz2⟩ := info_parts strInfo
  have HL := Lib.hid (length_bs s)
  go_enter Tryz.func41, Tryz.ntmps41
  go_wp2_with fail
  go_loopw [3, 4, 5, 6] (fun v vb vq vi wr => ∃ (i b : Nat) (q : Bool) (P : List Bs), i ≤ s.size + 1 ∧ b ≤ s.size + 1 ∧ P.length ≤ i ∧ vi = .int .i64 i ∧ vb = .int .i64 b ∧ vq = .bool q ∧ Hid (wr.ownsRow w.heap.size 9 1 v P.length (strs P)) ∧ Hid (Below w.heap.size w wr) ∧ Hid ((b ≤ i ∧ i ≤ s.size ∧ splitL (bs s) = P ++ spQ q (bs s) b i) ∨ (i = s.size + 1 ∧ splitL (bs s) = P ++ rest (bs s) b))) (fun _ _ _ vi _ => s.size + 2 - (RowKit.intOf vi).toNat)
  case atStart => exact ⟨0, 0, false, [], by omega, by omega, by simp, rfl, rfl, rfl, World.ownsRow_nil _ _ _ _, Below.refl _ _, .inl ⟨by omega, by omega, spQ_start _⟩⟩
  case round =>
    obtain ⟨i, b, q, P, hi, hb0, hP, rfl, rfl, rfl, HO, HB, HS⟩ := hrel
    rename World => W
    rename Value => v
    by_cases hle : i ≤ s.size
    · obtain ⟨hb, -, hsp⟩ : b ≤ i ∧ i ≤ s.size ∧ splitL (bs s) = P ++ spQ q (bs s) b i := by
        rcases HS.out with h | h
        · exact h
        · omega
      have HS2 := Lib.hid hsp
      clear hsp HS
      by_cases hlt : i < s.size
      · have hgd := getD_bs s i hlt
        have HG := Lib.hid hgd
        clear hgd
        have hll : i < (bs s).length := by rw [HL.out]; exact hlt
        have HLL := Lib.hid hll
        clear hll
        cases q
        · by_cases h34 : ((s[i].toNat : Int) == 34) = true
          · have e := HG.out.trans (u8_is s[i] 34 (by omega) h34)
            have h44 : ((s[i].toNat : Int) == 44) = false := by rw [eq_of_beq h34]; rfl
            have H2 : Hid (splitL (bs s) = P ++ spQ true (bs s) b (i + 1)) := by
              show _ = _
              rw [HS2.out, spQ_open (bs s) b i HLL.out hb e]
            clear e HS2
            go_wp2_with fail
            go_roundw
            case rel => exact ⟨i + 1, b, true, P, by omega, by omega, by omega, by go_num, rfl, rfl, HO, HB, .inl ⟨by omega, by omega, H2.out⟩⟩
            case measure => simp [RowKit.intOf] <;> omega
          · have h34 : ((s[i].toNat : Int) == 34) = false := by simpa using h34
            have n34 : (bs s).getD i 0 ≠ 34 := fun h => u8_not s[i] 34 h34 (by omega) (HG.out.symm.trans h)
            by_cases h44 : ((s[i].toNat : Int) == 44) = true
            · have e := HG.out.trans (u8_is s[i] 44 (by omega) h44)
              have H2 : Hid (splitL (bs s) = P ++ (addP (trimL (bs (s.extract b i))) ++ spQ false (bs s) (i + 1) (i + 1))) := by
                show _ = _
                rw [HS2.out, spQ_comma (bs s) b i HLL.out e, bs_extract]
              have HT := Lib.hid (fun W => rTrim_any (s.extract b i) W (by rw [← length_bs, bs_extract, List.length_take]; omega))
              generalize trimL (bs (s.extract b i)) = t at *
              clear e HS2 n34
              by_cases he : t = []
              · subst he
                have hne : (mkS []).toList.isEmpty = true := by rw [toList_bs]; rfl
                have H3 : Hid (splitL (bs s) = P ++ spQ false (bs s) (i + 1) (i + 1)) := by
                  show _ = _
                  rw [H2.out]; simp [addP]
                clear H2
                go_wp2_with fail
                rw [show (min (i : Int) (s.size : Int)).toNat = i by omega]
                refine (HT.out _).mono ?_
                rintro e w' ⟨rfl, rfl⟩
                go_wp2_with fail
                go_roundw
                case rel => exact ⟨i + 1, i + 1, false, P, by omega, by omega, by first | omega | (rw [List.length_append]; simp; omega), by go_num, by go_num, rfl, HO, HB, .inl ⟨by omega, by omega, H3.out⟩⟩
                case measure => simp [RowKit.intOf] <;> omega
              · have hne : (mkS t).toList.isEmpty = false := by rw [toList_bs, bs_mkS]; simpa using he
                have H3 : Hid (splitL (bs s) = (P ++ [t]) ++ spQ false (bs s) (i + 1) (i + 1)) := by
                  show _ = _
                  rw [H2.out]; simp [addP, he]
                clear H2
                go_wp2_with fail
                rw [show (min (i : Int) (s.size : Int)).toNat = i by omega]
                refine (HT.out _).mono ?_
                rintro e w' ⟨rfl, rfl⟩
                have hown' := HO.out
                have hB' := HB.out.size
                go_wp2_with (at_builtin; refine wpList_append_own _ rfl _ _ 37 rfl w.heap.size 9 i0 (.string .empty) 1 16 Tryz.underlying37 hi0 hz0 hz1 hz2 rfl (by decide) _ _ _ rfl (hown'.alloc _) ⟨W.heap.size, 0, none⟩ 1 1 [.string (mkS t)] rfl rfl ?c1 ?c2 ?c3 ?c4 ?c5 ?_)
                case c1 => exact cell_one_new _ _ _
                case c2 => simp [Value.oneCell']
                case c3 => unfold maxLen; omega
                case c4 => omega
                case c5 => simp; omega
                intro v' w1 hown1 hg1 _
                have hb1 : Below w.heap.size w w1 := HB.out.trans (((Below.refl w.heap.size W).alloc hB' _).trans (below_of_grown hg1 (hown'.alloc _) (by simp; omega)))
                have HB1 := Lib.hid hb1
                have ho1 : w1.ownsRow w.heap.size 9 1 v' (P ++ [t]).length (strs (P ++ [t])) := by rw [List.length_append, strs_append]; exact hown1
                have HO1 := Lib.hid ho1
                clear hb1 hown1 hg1 hown' hB' ho1
                go_wp2_with fail
                go_roundw
                case rel => exact ⟨i + 1, i + 1, false, P ++ [t], by omega, by omega, by first | omega | (rw [List.length_append]; simp; omega), by go_num, by go_num, rfl, HO1, HB1, .inl ⟨by omega, by omega, H3.out⟩⟩
                case measure => simp [RowKit.intOf] <;> omega
            · have h44 : ((s[i].toNat : Int) == 44) = false := by simpa using h44
              have n44 : (bs s).getD i 0 ≠ 44 := fun h => u8_not s[i] 44 h44 (by omega) (HG.out.symm.trans h)
              have H2 : Hid (splitL (bs s) = P ++ spQ false (bs s) b (i + 1)) := by
                show _ = _
                rw [HS2.out, spQ_out (bs s) b i HLL.out hb n44 n34]
              clear n34 n44 HS2
              go_wp2_with fail
              go_roundw
              case rel => exact ⟨i + 1, b, false, P, by omega, by omega, by omega, by go_num, rfl, rfl, HO, HB, .inl ⟨by omega, by omega, H2.out⟩⟩
              case measure => simp [RowKit.intOf] <;> omega
        · by_cases h92 : ((s[i].toNat : Int) == 92) = true
          · have e := HG.out.trans (u8_is s[i] 92 (by omega) h92)
            by_cases hl : i + 1 < s.size
            · have H2 : Hid (splitL (bs s) = P ++ spQ true (bs s) b (i + 1 + 1)) := by
                show _ = _
                rw [HS2.out, spQ_esc (bs s) b i (by rw [HL.out]; exact hl) hb e]
              clear e HS2
              go_wp2_with fail
              go_roundw
              case rel => exact ⟨i + 1 + 1, b, true, P, by omega, by omega, by omega, by go_num, rfl, rfl, HO, HB, .inl ⟨by omega, by omega, H2.out⟩⟩
              case measure => simp [RowKit.intOf] <;> omega
            · have H2 : Hid (splitL (bs s) = P ++ rest (bs s) b) := by
                show _ = _
                rw [HS2.out, spQ_last (bs s) b i (by rw [HL.out]; omega) hb e, rest_left (bs s) b (by rw [HL.out]; omega)]
              clear e HS2
              go_wp2_with fail
              go_roundw
              case rel => exact ⟨i + 1 + 1, b, true, P, by omega, by omega, by omega, by go_num, rfl, rfl, HO, HB, .inr ⟨by omega, H2.out⟩⟩
              case measure => simp [RowKit.intOf] <;> omega
          · have h92 : ((s[i].toNat : Int) == 92) = false := by simpa using h92
            have n92 : (bs s).getD i 0 ≠ 92 := fun h => u8_not s[i] 92 h92 (by omega) (HG.out.symm.trans h)
            by_cases h34 : ((s[i].toNat : Int) == 34) = true
            · have e := HG.out.trans (u8_is s[i] 34 (by omega) h34)
              have h44 : ((s[i].toNat : Int) == 44) = false := by rw [eq_of_beq h34]; rfl
              have H2 : Hid (splitL (bs s) = P ++ spQ false (bs s) b (i + 1)) := by
                show _ = _
                rw [HS2.out, spQ_close (bs s) b i HLL.out hb e]
              clear e HS2 n92
              go_wp2_with fail
              go_roundw
              case rel => exact ⟨i + 1, b, false, P, by omega, by omega, by omega, by go_num, rfl, rfl, HO, HB, .inl ⟨by omega, by omega, H2.out⟩⟩
              case measure => simp [RowKit.intOf] <;> omega
            · have h34 : ((s[i].toNat : Int) == 34) = false := by simpa using h34
              have n34 : (bs s).getD i 0 ≠ 34 := fun h => u8_not s[i] 34 h34 (by omega) (HG.out.symm.trans h)
              have H2 : Hid (splitL (bs s) = P ++ spQ true (bs s) b (i + 1)) := by
                show _ = _
                rw [HS2.out, spQ_in (bs s) b i HLL.out hb n92 n34]
              clear n34 n92 HS2
              go_wp2_with fail
              go_roundw
              case rel => exact ⟨i + 1, b, true, P, by omega, by omega, by omega, by go_num, rfl, rfl, HO, HB, .inl ⟨by omega, by omega, H2.out⟩⟩
              case measure => simp [RowKit.intOf] <;> omega
      · have hie : i = s.size := by omega
        subst hie
        have H2 : Hid (splitL (bs s) = P ++ (addP (trimL (bs (s.extract b s.size))) ++ rest (bs s) (s.size + 1))) := by
          show _ = _
          rw [HS2.out, spQ_end q (bs s) b s.size (by rw [HL.out]; exact Nat.le_refl _), rest_past (bs s) (s.size + 1) (by rw [HL.out]; omega), bs_extract, List.take_of_length_le (by rw [List.length_drop, HL.out]; exact Nat.le_refl _), List.append_nil]
        have HT := Lib.hid (fun W => rTrim_any (s.extract b s.size) W (by rw [← length_bs, bs_extract, List.length_take]; omega))
        generalize trimL (bs (s.extract b s.size)) = t at *
        clear HS2
        by_cases he : t = []
        · subst he
          have hne : (mkS []).toList.isEmpty = true := by rw [toList_bs]; rfl
          have H3 : Hid (splitL (bs s) = P ++ rest (bs s) (s.size + 1)) := by
            show _ = _
            rw [H2.out]; simp [addP]
          clear H2
          go_wp2_with fail
          try rw [show (min (s.size : Int) (s.size : Int)).toNat = s.size by omega]
          refine (HT.out _).mono ?_
          rintro e w' ⟨rfl, rfl⟩
          go_wp2_with fail
          go_roundw
          case rel => exact ⟨s.size + 1, s.size + 1, q, P, by omega, by omega, by first | omega | (rw [List.length_append]; simp; omega), by go_num, by go_num, rfl, HO, HB, .inr ⟨by omega, H3.out⟩⟩
          case measure => simp [RowKit.intOf] <;> omega
        · have hne : (mkS t).toList.isEmpty = false := by rw [toList_bs, bs_mkS]; simpa using he
          have H3 : Hid (splitL (bs s) = (P ++ [t]) ++ rest (bs s) (s.size + 1)) := by
            show _ = _
            rw [H2.out]; simp [addP, he]
          clear H2
          go_wp2_with fail
          try rw [show (min (s.size : Int) (s.size : Int)).toNat = s.size by omega]
          refine (HT.out _).mono ?_
          rintro e w' ⟨rfl, rfl⟩
          have hown' := HO.out
          have hB' := HB.out.size
          go_wp2_with (at_builtin; refine wpList_append_own _ rfl _ _ 37 rfl w.heap.size 9 i0 (.string .empty) 1 16 Tryz.underlying37 hi0 hz0 hz1 hz2 rfl (by decide) _ _ _ rfl (hown'.alloc _) ⟨W.heap.size, 0, none⟩ 1 1 [.string (mkS t)] rfl rfl ?c1 ?c2 ?c3 ?c4 ?c5 ?_)
          case c1 => exact cell_one_new _ _ _
          case c2 => simp [Value.oneCell']
          case c3 => unfold maxLen; omega
          case c4 => omega
          case c5 => simp; omega
          intro v' w1 hown1 hg1 _
          have hb1 : Below w.heap.size w w1 := HB.out.trans (((Below.refl w.heap.size W).alloc hB' _).trans (below_of_grown hg1 (hown'.alloc _) (by simp; omega)))
          have HB1 := Lib.hid hb1
          have ho1 : w1.ownsRow w.heap.size 9 1 v' (P ++ [t]).length (strs (P ++ [t])) := by rw [List.length_append, strs_append]; exact hown1
          have HO1 := Lib.hid ho1
          clear hb1 hown1 hg1 hown' hB' ho1
          go_wp2_with fail
          go_roundw
          case rel => exact ⟨s.size + 1, s.size + 1, q, P ++ [t], by omega, by omega, by first | omega | (rw [List.length_append]; simp; omega), by go_num, by go_num, rfl, HO1, HB1, .inr ⟨by omega, H3.out⟩⟩
          case measure => simp [RowKit.intOf] <;> omega
    · have hie : i = s.size + 1 := by omega
      subst hie
      have hsp : splitL (bs s) = P ++ rest (bs s) b := by
        rcases HS.out with h | h
        · omega
        · exact h.2
      have HS2 := Lib.hid hsp
      clear hsp HS
      by_cases hb : b < s.size
      · have H2 : Hid (splitL (bs s) = P ++ (addP (trimL (bs (s.extract b s.size))) ++ [])) := by
          show _ = _
          rw [HS2.out, rest_left (bs s) b (by rw [HL.out]; exact hb), bs_extract, List.take_of_length_le (by rw [List.length_drop, HL.out]; exact Nat.le_refl _), List.append_nil]
        have HT := Lib.hid (fun W => rTrim_any (s.extract b s.size) W (by rw [← length_bs, bs_extract, List.length_take]; omega))
        generalize trimL (bs (s.extract b s.size)) = t at *
        clear HS2
        by_cases he : t = []
        · subst he
          have hne : (mkS []).toList.isEmpty = true := by rw [toList_bs]; rfl
          have H3 : Hid (splitL (bs s) = P) := by
            show _ = _
            rw [H2.out]; simp [addP]
          clear H2
          go_wp2_with fail
          skip
          refine (HT.out _).mono ?_
          rintro e w' ⟨rfl, rfl⟩
          go_wp2_with fail
          go_ret
          refine ⟨_, rfl, ?_, HB.out⟩
          rw [H3.out]
          exact HO.out
        · have hne : (mkS t).toList.isEmpty = false := by rw [toList_bs, bs_mkS]; simpa using he
          have H3 : Hid (splitL (bs s) = (P ++ [t])) := by
            show _ = _
            rw [H2.out]; simp [addP, he]
          clear H2
          go_wp2_with fail
          skip
          refine (HT.out _).mono ?_
          rintro e w' ⟨rfl, rfl⟩
          have hown' := HO.out
          have hB' := HB.out.size
          go_wp2_with (at_builtin; refine wpList_append_own _ rfl _ _ 37 rfl w.heap.size 9 i0 (.string .empty) 1 16 Tryz.underlying37 hi0 hz0 hz1 hz2 rfl (by decide) _ _ _ rfl (hown'.alloc _) ⟨W.heap.size, 0, none⟩ 1 1 [.string (mkS t)] rfl rfl ?c1 ?c2 ?c3 ?c4 ?c5 ?_)
          case c1 => exact cell_one_new _ _ _
          case c2 => simp [Value.oneCell']
          case c3 => unfold maxLen; omega
          case c4 => omega
          case c5 => simp; omega
          intro v' w1 hown1 hg1 _
          have hb1 : Below w.heap.size w w1 := HB.out.trans (((Below.refl w.heap.size W).alloc hB' _).trans (below_of_grown hg1 (hown'.alloc _) (by simp; omega)))
          have HB1 := Lib.hid hb1
          have ho1 : w1.ownsRow w.heap.size 9 1 v' (P ++ [t]).length (strs (P ++ [t])) := by rw [List.length_append, strs_append]; exact hown1
          have HO1 := Lib.hid ho1
          clear hb1 hown1 hg1 hown' hB' ho1
          go_wp2_with fail
          go_ret
          refine ⟨_, rfl, ?_, HB1.out⟩
          rw [H3.out]
          exact HO1.out
      · have H2 : Hid (splitL (bs s) = P) := by
          show _ = _
          rw [HS2.out, rest_past (bs s) b (by rw [HL.out]; omega), List.append_nil]
        clear HS2
        go_wp2_with fail
        go_ret
        refine ⟨_, rfl, ?_, HB.out⟩
        rw [H2.out]
        exact HO.out
end Tk
end Go.Proofs.YtcddkeekabafgaaGreatDoor
namespace Go.Proofs.YtcddkeekabafgaaGreatDoor
open Go.RowKit
namespace Tk

set_option maxHeartbeats 8000000 in
set_option maxRecDepth 100000 in
theorem rall_any (v : Value) (l : List (Bs × Bs)) (name : Bs) (w : World) (hs : IsFlds w v l) (hz : ∀ f ∈ l, f.1.length ≤ 1099511627776 ∧ f.2.length ≤ 1099511627776) (hn : name.length ≤ 1099511627776) (hl : l.length ≤ 1048576) :
    Calls Tryz.prog 28 #[v, .string (mkS name)] w (ListPost w.heap.size (allF l name) w) := by
  have HS := Lib.hid hs
  have HZ := Lib.hid hz
  obtain ⟨i0, hi0, hz0, hz1, hz2⟩ := info_parts strInfo
  have HNZ := Lib.hid (size_mkS name)
  obtain ⟨a, cap, rfl⟩ : ∃ a cap, v = .slice a l.length cap := by obtain ⟨a, c, h, -⟩ := hs; exact ⟨a, c, h⟩
  clear hs hz
  go_enter Tryz.func28, Tryz.ntmps28
  go_wp2_with fail
  go_loopw [5, 6] (fun v5 vi wr => ∃ i : Nat, i ≤ l.length ∧ vi = .int .i64 i ∧ Hid (wr.ownsRow w.heap.size 9 1 v5 (allF (l.take i) name).length (strs (allF (l.take i) name))) ∧ Hid (Below w.heap.size w wr)) (fun _ vi _ => l.length - (RowKit.intOf vi).toNat)
  case atStart => exact ⟨0, Nat.zero_le _, rfl, World.ownsRow_nil _ _ _ _, Below.refl _ _⟩
  case round =>
    obtain ⟨i, hi, rfl, HO, HB⟩ := hrel
    rename World => W
    by_cases hlt : i < l.length
    · obtain ⟨a', c', e', hcap, hc⟩ := isFlds_below HS.out HB.out
      injection e' with e1 _ e2
      subst e1 e2
      obtain ⟨b, o, rfl, hc0, hc1⟩ := hc i (l.getD i ([], [])) (by simp [List.getD, hlt])
      have hm := HZ.out (l.getD i ([], [])) (by simp [List.getD, hlt])
      have htk : l.take (i + 1) = l.take i ++ [l.getD i ([], [])] := by
        rw [List.take_succ_eq_append_getElem hlt]; simp [List.getD, hlt]
      have hnx := allF_snoc (l.take i) (l.getD i ([], [])) name
      rw [← htk] at hnx
      have HNX := Lib.hid hnx
      have hal := allF_len (l.take i) name
      have htl : (l.take i).length ≤ i := by simp; omega
      have hal2 : (allF (l.take i) name).length ≤ 1048576 := by omega
      clear hc htk hnx hal htl
      generalize l.getD i ([], []) = f at *
      obtain ⟨n, x⟩ := f
      have hnz := size_mkS n
      have hxz := size_mkS x
      simp only at hm hc0 hc1
      have HC := fun W : World => rsm_any (mkS n) (mkS name) W (by omega) (by rw [HNZ.out]; exact hn)
      rw [bs_mkS, bs_mkS] at HC
      have g0 : (0 : Int) ≤ (i : Int) := by omega
      have g1 : (i : Int) < (l.length : Int) := by omega
      have hlt1 := cell_lt (p := ⟨b, o + i * 2 + 1, none⟩) hc1
      clear hnz hxz
      have hkk : isN name (n, x) = decide (lowL n = lowL name) := rfl
      rw [← hkk] at HC
      clear hkk
      generalize allF (l.take i) name = P at *
      cases hk : isN name (n, x)
      · rw [hk] at HC HNX
        have hx2 : allF (l.take (i + 1)) name = P := by rw [HNX.out]; simp
        have HX := Lib.hid hx2
        have HC2 := Lib.hid HC
        clear HC hk hx2
        go_wp2_with fail
        refine (HC2.out _).mono ?_
        rintro e w5 ⟨rfl, hb⟩
        have HO5 := Lib.hid (own_keep HO.out hb)
        have HB5 := Lib.hid (HB.out.trans (hb.mono HB.out.size))
        clear hb
        go_wp2_with fail
        refine ⟨⟨i + 1, hlt, by go_num, ?_, HB5⟩, by simp [RowKit.intOf]; omega⟩
        show World.ownsRow _ _ _ _ _ _ _
        rw [HX.out]
        exact HO5.out
      · rw [hk] at HC HNX
        have hx2 : allF (l.take (i + 1)) name = P ++ [x] := by rw [HNX.out]; simp
        have HX := Lib.hid hx2
        have HC2 := Lib.hid HC
        clear HC hk hx2
        go_wp2_with fail
        refine (HC2.out _).mono ?_
        rintro e w6 ⟨rfl, hb⟩
        have hown' := own_keep HO.out hb
        have hB' : w.heap.size ≤ w6.heap.size := Nat.le_trans HB.out.size hb.size
        have HB6 := Lib.hid (HB.out.trans (hb.mono HB.out.size))
        have p1 : w6.cell? ⟨b, o + i * 2 + 1, none⟩ = some (.string (mkS x)) := (hb.cell (p := ⟨b, o + i * 2 + 1, none⟩) hlt1).trans hc1
        clear hb
        go_wp2_with (at_builtin; refine wpList_append_own _ rfl _ _ 37 rfl w.heap.size 9 i0 (.string .empty) 1 16 Tryz.underlying37 hi0 hz0 hz1 hz2 rfl (by decide) _ _ _ rfl (hown'.alloc _) ⟨w6.heap.size, 0, none⟩ 1 1 [.string (mkS x)] rfl rfl ?c1 ?c2 ?c3 ?c4 ?c5 ?_)
        case c1 => exact cell_one_new _ _ _
        case c2 => simp [Value.oneCell']
        case c3 => unfold maxLen; omega
        case c4 => omega
        case c5 => simp; omega
        intro v' w1 hown1 hg1 _
        have hb1 : Below w.heap.size w w1 := HB6.out.trans (((Below.refl w.heap.size w6).alloc hB' _).trans (below_of_grown hg1 (hown'.alloc _) (by simp; omega)))
        have HB7 := Lib.hid hb1
        have HO7 := Lib.hid hown1
        clear hb1 hown1 hg1 hown'
        go_wp2_with fail
        refine ⟨⟨i + 1, hlt, by go_num, ?_, HB7⟩, by simp [RowKit.intOf]; omega⟩
        show World.ownsRow _ _ _ _ _ _ _
        rw [HX.out, List.length_append, strs_append]
        exact HO7.out
    · have hil : l.take i = l := List.take_of_length_le (by omega)
      rw [hil] at HO
      go_wp2_with fail
      go_ret
      exact ⟨_, rfl, HO.out, HB.out⟩

end Tk
end Go.Proofs.YtcddkeekabafgaaGreatDoor
namespace Go.Proofs.YtcddkeekabafgaaGreatDoor
open Go.RowKit
namespace Tk

set_option maxHeartbeats 8000000 in
set_option maxRecDepth 100000 in
theorem rlist_any (v : Value) (l : List (Bs × Bs)) (name : Bs) (w : World) (hs : IsFlds w v l) (hz : sumF l ≤ 1000000) (hn : name.length ≤ 1099511627776) (hl : l.length ≤ 1048576) :
    Calls Tryz.prog 19 #[v, .string (mkS name)] w (ListPost w.heap.size (listF l name) w) := by
  have HA := Lib.hid (rall_any v l name w hs (sum_each l (by omega)) hn hl)
  unfold ListPost at HA
  have hlist : listF l name = (allF l name).flatMap splitL := rfl
  have HLI := Lib.hid hlist
  have hpc := Lib.hid (fun p hp => Nat.le_trans (all_piece name l p hp) hz)
  have hfl := Lib.hid (fun i => flat_sub (allF l name) i)
  have hal := allF_len l name
  have hPl : (allF l name).length ≤ 1048576 := by omega
  have hln := listF_len name l
  rw [hlist] at hln
  have hln2 : ((allF l name).flatMap splitL).length ≤ 1000000 := by omega
  obtain ⟨a, cap, rfl⟩ : ∃ a cap, v = .slice a l.length cap := by obtain ⟨a, c, h, -⟩ := hs; exact ⟨a, c, h⟩
  clear hs hz hlist hln hal
  generalize listF l name = Q at *
  generalize allF l name = P at *
  go_enter Tryz.func19, Tryz.ntmps19
  go_wp2_with fail
  refine HA.out.mono ?_
  rintro e w1 ⟨v1, rfl, ho, hb⟩
  have HB1 := Lib.hid hb
  have HS := Lib.hid (isStrs_own ho)
  have HLt := Lib.hid (fun k e => (ho.lt k e).2)
  obtain ⟨a1, c1, rfl⟩ : ∃ a c, v1 = .slice a P.length c := by obtain ⟨a, c, h, -⟩ := isStrs_own ho; exact ⟨a, c, h⟩
  clear ho hb
  go_wp2_with fail
  go_loopw [6, 7] (fun v5 vi wr => ∃ i : Nat, i ≤ P.length ∧ vi = .int .i64 i ∧ Hid (wr.ownsRow w1.heap.size 9 1 v5 ((P.take i).flatMap splitL).length (strs ((P.take i).flatMap splitL))) ∧ Hid (Below w1.heap.size w1 wr)) (fun _ vi _ => P.length - (RowKit.intOf vi).toNat)
  case atStart => exact ⟨0, Nat.zero_le _, rfl, World.ownsRow_nil _ _ _ _, Below.refl _ _⟩
  case round =>
    obtain ⟨i, hi, rfl, HO, HB⟩ := hrel
    rename World => W
    by_cases hlt : i < P.length
    · obtain ⟨a', c', e', hc⟩ := isStrs_later HS.out HB.out HLt.out
      injection e' with e1 _ e2
      subst e1 e2
      obtain ⟨b, o, rfl, hc⟩ := hc i (P.getD i []) (by simp [List.getD, hlt])
      have hm := hpc.out (P.getD i []) (by simp [List.getD, hlt])
      have htk := take_flat P i hlt
      have HTK := Lib.hid htk
      have hf1 := hfl.out i
      have hsl := split_len (P.getD i [])
      clear htk
      generalize P.getD i [] = x at *
      have hxz := size_mkS x
      have hsp := fun W : World => rSplit_any (mkS x) W (by omega)
      rw [bs_mkS] at hsp
      have HSP := Lib.hid hsp
      have g0 : (0 : Int) ≤ (i : Int) := by omega
      have g1 : (i : Int) < (P.length : Int) := by omega
      clear hsp hxz
      have hk1 : ((P.take i).flatMap splitL).length ≤ 1048576 := by omega
      have hk2 : (splitL x).length ≤ 1048576 := by omega
      generalize (P.take i).flatMap splitL = R at *
      generalize splitL x = S at *
      go_wp2_with fail
      refine (HSP.out _).mono ?_
      rintro e w3 ⟨v3, rfl, ho3, hb3⟩
      have HO3 := Lib.hid (own_keep HO.out hb3)
      have HB3 := Lib.hid (HB.out.trans (hb3.mono HB.out.size))
      have HS3 := Lib.hid ho3
      clear ho3 hb3
      go_wp2_with (at_builtin; refine join_guarded (by rfl) _ _ rfl w1.heap.size _ _ _ R S rfl rfl HO3.out HS3.out HB3.out.size hk1 hk2 ?_)
      intro v4 w4 ho4 hb4
      have HB4 := Lib.hid (HB3.out.trans hb4)
      have HO4 : Hid (w4.ownsRow w1.heap.size 9 1 v4 ((P.take (i + 1)).flatMap splitL).length (strs ((P.take (i + 1)).flatMap splitL))) := by
        show World.ownsRow _ _ _ _ _ _ _
        rw [HTK.out, List.length_append]; exact ho4
      clear ho4 hb4
      go_wp2_with fail
      exact ⟨⟨i + 1, hlt, by go_num, HO4, HB4⟩, by simp [RowKit.intOf]; omega⟩
    · have hil : P.take i = P := List.take_of_length_le (by omega)
      rw [hil, ← HLI.out] at HO
      have HBF := Lib.hid (HB1.out.trans (HB.out.mono HB1.out.size))
      have HOF := Lib.hid (World.ownsRow.mono HO.out HB1.out.size)
      go_wp2_with fail
      go_ret
      exact ⟨_, rfl, HOF.out, HBF.out⟩
end Tk
end Go.Proofs.YtcddkeekabafgaaGreatDoor
namespace Go.Proofs.YtcddkeekabafgaaGreatDoor
open Go.RowKit
namespace Tk

theorem delF_snocD (l : List (Bs × Bs)) (f : Bs × Bs) (name : Bs) : delF name (l ++ [f]) = delF name l ++ (if isN name f then [] else [f]) := by
  rw [delF_app]
  congr 1
  unfold delF
  cases h : isN name f <;> simp [h]
theorem keepD {w w' : World} {B : Nat} {v : Value} {n : Nat} {xs : List Value} {e : TypeId} {k : Nat} (h : w.ownsRow B e k v n xs) (hb : Below w.heap.size w w') : w'.ownsRow B e k v n xs :=
  World.ownsRow.kept h (row := none) ⟨hb.os, hb.tape, hb.output, hb.size, fun k hk _ => hb.block k hk⟩ (by cases h : v.ownBlock <;> simp)

set_option maxHeartbeats 8000000 in
set_option maxRecDepth 100000 in
theorem rdel_any (v : Value) (l : List (Bs × Bs)) (name : Bs) (w : World) (hs : IsFlds w v l) (hz : ∀ f ∈ l, f.1.length ≤ 1099511627776 ∧ f.2.length ≤ 1099511627776) (hn : name.length ≤ 1099511627776) (hl : l.length ≤ 1048576) :
    Calls Tryz.prog 22 #[v, .string (mkS name)] w (OwnPost (delF name l) w) := by
  have HS := Lib.hid hs
  have HZ := Lib.hid hz
  have HNZ := Lib.hid (size_mkS name)
  unfold OwnPost
  obtain ⟨a, cap, rfl⟩ : ∃ a cap, v = .slice a l.length cap := by obtain ⟨a, c, h, -⟩ := hs; exact ⟨a, c, h⟩
  clear hs hz
  go_enter Tryz.func22, Tryz.ntmps22
  go_wp2_with fail
  go_loopw [5, 6] (fun v5 vi wr => ∃ i : Nat, i ≤ l.length ∧ vi = .int .i64 i ∧ Hid (wr.ownsRow w.heap.size 32 2 v5 (delF name (l.take i)).length (fcells (delF name (l.take i)))) ∧ Hid (Below w.heap.size w wr)) (fun _ vi _ => l.length - (RowKit.intOf vi).toNat)
  case atStart => exact ⟨0, Nat.zero_le _, rfl, World.ownsRow_nil _ _ _ _, Below.refl _ _⟩
  case round =>
    obtain ⟨i, hi, rfl, HO, HB⟩ := hrel
    rename World => W
    by_cases hlt : i < l.length
    · obtain ⟨a', c', e', hcap, hc⟩ := isFlds_below HS.out HB.out
      injection e' with e1 _ e2
      subst e1 e2
      obtain ⟨b, o, rfl, hc0, hc1⟩ := hc i (l.getD i ([], [])) (by simp [List.getD, hlt])
      have hm := HZ.out (l.getD i ([], [])) (by simp [List.getD, hlt])
      have htk : l.take (i + 1) = l.take i ++ [l.getD i ([], [])] := by
        rw [List.take_succ_eq_append_getElem hlt]; simp [List.getD, hlt]
      have hnx := delF_snocD (l.take i) (l.getD i ([], [])) name
      rw [← htk] at hnx
      have HNX := Lib.hid hnx
      have hal := delF_len name (l.take i)
      have htl : (l.take i).length ≤ i := by simp; omega
      have hal2 : (delF name (l.take i)).length ≤ 1048576 := by omega
      clear hc htk hnx hal htl
      generalize l.getD i ([], []) = f at *
      obtain ⟨n, x⟩ := f
      have hnz := size_mkS n
      simp only at hm hc0 hc1
      have HC := fun W : World => rsm_any (mkS n) (mkS name) W (by omega) (by rw [HNZ.out]; exact hn)
      rw [bs_mkS, bs_mkS] at HC
      have g0 : (0 : Int) ≤ (i : Int) := by omega
      have g1 : (i : Int) < (l.length : Int) := by omega
      have hlt0 := cell_lt (p := ⟨b, o + i * 2, none⟩) hc0
      have hlt1 := cell_lt (p := ⟨b, o + i * 2 + 1, none⟩) hc1
      clear hnz
      have hkk : isN name (n, x) = decide (lowL n = lowL name) := rfl
      rw [← hkk] at HC
      clear hkk
      generalize delF name (l.take i) = P at *
      cases hk : isN name (n, x)
      · rw [hk] at HC HNX
        have hx2 : delF name (l.take (i + 1)) = P ++ [(n, x)] := by rw [HNX.out]; simp
        have HX := Lib.hid hx2
        have HC2 := Lib.hid HC
        clear HC hk hx2
        go_wp2_with fail
        refine (HC2.out _).mono ?_
        rintro e w6 ⟨rfl, hb⟩
        have ho6 := keepD HO.out hb
        have hB' : w.heap.size ≤ w6.heap.size := Nat.le_trans HB.out.size hb.size
        have HB6 := Lib.hid (HB.out.trans (hb.mono HB.out.size))
        have p0 : w6.cell? ⟨b, o + i * 2, none⟩ = some (.string (mkS n)) := (hb.cell (p := ⟨b, o + i * 2, none⟩) hlt0).trans hc0
        have p1 : w6.cell? ⟨b, o + i * 2 + 1, none⟩ = some (.string (mkS x)) := (hb.cell (p := ⟨b, o + i * 2 + 1, none⟩) hlt1).trans hc1
        have hbal : Below w6.heap.size w6 (w6.alloc (Obj.cells #[.string (mkS n), .string (mkS x)] 32)) := (Below.refl _ _).alloc (Nat.le_refl _) _
        have HO7 := Lib.hid (keepD ho6 hbal)
        have HF7 := Lib.hid (isFlds_lit w6 n x)
        have HB7 := Lib.hid (HB6.out.trans (hbal.mono hB'))
        have hs7 : w.heap.size ≤ (w6.alloc (Obj.cells #[.string (mkS n), .string (mkS x)] 32)).heap.size := HB7.out.size
        clear hb ho6 hbal
        go_wp2_with (at_builtin; refine joinF_guarded (by rfl) _ _ rfl w.heap.size _ _ P [(n, x)] rfl rfl HO7.out HF7.out (fun _ _ h => by injection h with h1; cases h1) hs7 hal2 (by simp) ?_)
        intro v8 w8 ho8 hg8
        have HB8 := Lib.hid (HB7.out.trans (below_of_grownF hg8 HO7.out hs7))
        have e1 : (P ++ [(n, x)]).length = P.length + 1 := by simp
        have HO8 : Hid (w8.ownsRow w.heap.size 32 2 v8 (delF name (l.take (i + 1))).length (fcells (delF name (l.take (i + 1))))) := by
          show World.ownsRow _ _ _ _ _ _ _
          rw [HX.out]
          first | exact ho8 | (rw [e1]; exact ho8)
        clear ho8 hg8 e1
        go_wp2_with fail
        exact ⟨⟨i + 1, hlt, by go_num, HO8, HB8⟩, by simp [RowKit.intOf]; omega⟩
      · rw [hk] at HC HNX
        have hx2 : delF name (l.take (i + 1)) = P := by rw [HNX.out]; simp
        have HX := Lib.hid hx2
        have HC2 := Lib.hid HC
        clear HC hk hx2
        go_wp2_with fail
        refine (HC2.out _).mono ?_
        rintro e w5 ⟨rfl, hb⟩
        have HO5 := Lib.hid (keepD HO.out hb)
        have HB5 := Lib.hid (HB.out.trans (hb.mono HB.out.size))
        clear hb
        go_wp2_with fail
        refine ⟨⟨i + 1, hlt, by go_num, ?_, HB5⟩, by simp [RowKit.intOf]; omega⟩
        show World.ownsRow _ _ _ _ _ _ _
        rw [HX.out]
        exact HO5.out
    · have hil : l.take i = l := List.take_of_length_le (by omega)
      rw [hil] at HO
      go_wp2_with fail
      go_ret
      exact ⟨_, rfl, HO.out, HB.out⟩
end Tk
end Go.Proofs.YtcddkeekabafgaaGreatDoor
