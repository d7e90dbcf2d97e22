/- Sta0 Sta1, put together. -/
import Derived.Test.YtnbipbeeengiaaaGreatDoorQB
import Derived.Test.YtnbipbeeengiaaaGreatDoorQA
namespace Go.Proofs.YtnbipbeeengiaaaGreatDoor
namespace Tk

def vis (c : UInt8) : Bool := decide (33 ≤ c.toNat) && decide (c.toNat ≤ 126)
def someL (p : UInt8 → Bool) (l : Bs) : Bool := !l.isEmpty && l.all p
def tokL (l : Bs) : Bool := !l.isEmpty && allL 2 l
def oneDig (l : Bs) : Bool := decide (l.length = 1) && l.all isDig
def httpL : Bs := [72, 84, 84, 80, 47]

def vN (l : Bs) : Bs := if httpL.isPrefixOf l then l.drop 5 else l
def vA (l : Bs) : Bs := (cutL 46 (vN l)).1
def vB (l : Bs) : Bs := (cutL 46 (vN l)).2.1
def vForm (l : Bs) : Bool := httpL.isPrefixOf l && (oneDig (vA l) && oneDig (vB l))
def vKnown (l : Bs) : Bool := decide (vA l = [49]) && (decide (vB l = [48]) || decide (vB l = [49]))
def vSt (l : Bs) : Nat := if vForm l then (if vKnown l then 0 else 505) else 400
def vMi (l : Bs) : Nat := if vSt l = 0 then ((vB l).getD 0 0).toNat - 48 else 0

theorem mem_takeWhile_of (p : UInt8 → Bool) : ∀ (l : Bs) (x : UInt8), x ∈ l.takeWhile p → p x = true
  | [], x, h => by simp at h
  | a :: t, x, h => by
    rw [List.takeWhile_cons] at h
    split at h
    · next ha =>
      rcases List.mem_cons.1 h with rfl | h
      · exact ha
      · exact mem_takeWhile_of p t x h
    · simp at h
theorem dropWhile_ne (c : UInt8) : ∀ l : Bs, c ∈ l → l.dropWhile (· != c) = c :: (l.dropWhile (· != c)).drop 1
  | [], h => by simp at h
  | a :: t, h => by
    by_cases e : a = c
    · subst e; rw [List.dropWhile_cons]; simp
    · have e' : (a != c) = true := by simpa using e
      rw [List.dropWhile_cons, if_pos e']
      rcases List.mem_cons.1 h with rfl | h
      · exact absurd rfl e
      · exact dropWhile_ne c t h
theorem cut_split (c : UInt8) (l : Bs) : l = (cutL c l).1 ++ (if (cutL c l).2.2 then c :: (cutL c l).2.1 else []) := by
  unfold cutL
  by_cases h : l.contains c
  · rw [if_pos h]
    simp only [if_true]
    have hd := dropWhile_ne c l (by simpa using h)
    have := List.takeWhile_append_dropWhile (p := (· != c)) (l := l)
    rw [hd] at this
    exact this.symm
  · rw [if_neg h]; simp
theorem cut_first (c : UInt8) (l : Bs) : ∀ x ∈ (cutL c l).1, x ≠ c := by
  unfold cutL
  by_cases h : l.contains c
  · rw [if_pos h]
    intro x hx
    have := mem_takeWhile_of _ _ _ hx
    simpa using this
  · rw [if_neg h]
    intro x hx e
    subst e
    exact h (by simpa using hx)
theorem cut_none (c : UInt8) (l : Bs) (h : ∀ x ∈ l, x ≠ c) : cutL c l = (l, [], false) := by
  unfold cutL
  rw [if_neg]
  intro hc
  exact h c (by simpa using hc) rfl
theorem cutL_at (c : UInt8) (a b : Bs) (h : ∀ x ∈ a, x ≠ c) : cutL c (a ++ c :: b) = (a, b, true) := by
  have hn : ∀ x ∈ a, (x != c) = true := fun x hx => by simpa using h x hx
  unfold cutL
  rw [if_pos (by simp)]
  rw [List.takeWhile_append_of_pos hn, List.dropWhile_append_of_pos hn, List.takeWhile_cons, List.dropWhile_cons]
  simp
theorem cut_empty (c : UInt8) : cutL c [] = ([], [], false) := rfl

theorem oneDig_of (l : Bs) (h : oneDig l = true) : ∃ c, l = [c] ∧ isDig c = true := by
  unfold oneDig at h
  match l, h with
  | [c], h => exact ⟨c, rfl, by simpa using h⟩
theorem oneDig_one (c : UInt8) (h : isDig c = true) : oneDig [c] = true := by unfold oneDig; simp [h]
theorem dig_bd (c : UInt8) (h : isDig c = true) : 48 ≤ c.toNat ∧ c.toNat ≤ 57 := by
  unfold isDig at h; simpa using h

/-- a version that is well formed: its eight bytes -/
theorem vForm_of (l : Bs) (h : vForm l = true) : ∃ a b, isDig a = true ∧ isDig b = true ∧ l = httpL ++ [a, 46, b] ∧ vA l = [a] ∧ vB l = [b] := by
  unfold vForm at h
  simp only [Bool.and_eq_true] at h
  obtain ⟨hp, ha, hb⟩ := h
  obtain ⟨a, ea, da⟩ := oneDig_of _ ha
  obtain ⟨b, eb, db⟩ := oneDig_of _ hb
  refine ⟨a, b, da, db, ?_, ea, eb⟩
  obtain ⟨t, ht⟩ := List.isPrefixOf_iff_prefix.1 hp
  have hn : vN l = t := by
    unfold vN; rw [if_pos hp, ← ht]; rfl
  have hs := cut_split 46 t
  unfold vA at ea
  unfold vB at eb
  rw [hn] at ea eb
  rw [ea, eb] at hs
  by_cases hf : (cutL 46 t).2.2
  · rw [if_pos hf] at hs
    rw [← ht, hs]; rfl
  · have : (cutL 46 t).2.1 = [] := by
      unfold cutL at hf ⊢
      by_cases hc : t.contains 46
      · rw [if_pos hc] at hf; exact absurd rfl hf
      · rw [if_neg hc]
    rw [this] at eb; cases eb
theorem vN_http (t : Bs) : vN (httpL ++ t) = t := by
  unfold vN
  rw [if_pos (List.isPrefixOf_iff_prefix.2 ⟨t, rfl⟩)]; rfl
theorem v_digits (a b : UInt8) (ha : isDig a = true) (hb : isDig b = true) : vForm (httpL ++ [a, 46, b]) = true ∧ vA (httpL ++ [a, 46, b]) = [a] ∧ vB (httpL ++ [a, 46, b]) = [b] := by
  have hne : ∀ x ∈ [a], x ≠ (46 : UInt8) := fun x hx e => by
    rw [List.mem_singleton] at hx
    subst hx; subst e
    exact absurd ha (by decide)
  have hc : cutL 46 (vN (httpL ++ [a, 46, b])) = ([a], [b], true) := by
    rw [vN_http]; exact cutL_at 46 [a] [b] hne
  have h1 : vA (httpL ++ [a, 46, b]) = [a] := by unfold vA; rw [hc]
  have h2 : vB (httpL ++ [a, 46, b]) = [b] := by unfold vB; rw [hc]
  refine ⟨?_, h1, h2⟩
  unfold vForm
  rw [h1, h2, oneDig_one a ha, oneDig_one b hb, List.isPrefixOf_iff_prefix.2 ⟨_, rfl⟩]; rfl

/-- the text of a version that is supported -/
def vText (m : Nat) : Bs := [72, 84, 84, 80, 47, 49, 46, UInt8.ofNat (48 + m)]
theorem vText_ok (m : Nat) (h : m = 0 ∨ m = 1) : vSt (vText m) = 0 ∧ vMi (vText m) = m := by
  rcases h with rfl | rfl <;> decide
theorem vSt_zero (l : Bs) (h : vSt l = 0) : (vMi l = 0 ∨ vMi l = 1) ∧ l = vText (vMi l) := by
  have hm : vMi l = ((vB l).getD 0 0).toNat - 48 := by unfold vMi; rw [if_pos h]
  unfold vSt at h
  split at h
  · next hf =>
    split at h
    · next hk =>
      obtain ⟨a, b, da, db, el, ea, eb⟩ := vForm_of l hf
      unfold vKnown at hk
      rw [ea, eb] at hk
      rw [eb] at hm
      simp at hk
      obtain ⟨rfl, hk⟩ := hk
      rcases hk with rfl | rfl
      · have : vMi l = 0 := hm
        rw [this]; exact ⟨.inl rfl, el⟩
      · have : vMi l = 1 := hm
        rw [this]; exact ⟨.inr rfl, el⟩
    · cases h
  · cases h
theorem vSt_three (l : Bs) : vSt l = 0 ∨ vSt l = 400 ∨ vSt l = 505 := by
  unfold vSt; split
  · split <;> simp
  · simp

/-- the parts of a request line, or why it is none -/
def rM (l : Bs) : Bs := (cutL 32 l).1
def rT (l : Bs) : Bs := (cutL 32 (cutL 32 l).2.1).1
def rV (l : Bs) : Bs := (cutL 32 (cutL 32 l).2.1).2.1
def rIn (m t : Bs) : Bool := tokL m && someL vis t
def rSt (l : Bs) : Nat := if rIn (rM l) (rT l) then vSt (rV l) else 400
def reqM (l : Bs) : Bs := if rSt l = 0 then rM l else []
def reqT (l : Bs) : Bs := if rSt l = 0 then rT l else []
def reqN (l : Bs) : Nat := if rSt l = 0 then vMi (rV l) else 0

theorem all_ne (p : UInt8 → Bool) (l : Bs) (h : l.all p = true) (c : UInt8) (hc : p c = false) : ∀ x ∈ l, x ≠ c := by
  intro x hx e
  subst e
  rw [List.all_eq_true] at h
  rw [h x hx] at hc
  cases hc
theorem tok_ne (l : Bs) (h : tokL l = true) (c : UInt8) (hc : kindOf c.toNat < 2) : ∀ x ∈ l, x ≠ c := by
  unfold tokL at h
  rw [Bool.and_eq_true] at h
  intro x hx e
  subst e
  have := allL_mem 2 l h.2 x hx
  omega

def reqLine (m t : Bs) (n : Nat) : Bs := m ++ 32 :: (t ++ 32 :: vText n)
theorem req_cuts (m t v : Bs) (hm : tokL m = true) (ht : someL vis t = true) : rM (m ++ 32 :: (t ++ 32 :: v)) = m ∧ rT (m ++ 32 :: (t ++ 32 :: v)) = t ∧ rV (m ++ 32 :: (t ++ 32 :: v)) = v := by
  have h1 : cutL 32 (m ++ 32 :: (t ++ 32 :: v)) = (m, t ++ 32 :: v, true) := cutL_at 32 m _ (tok_ne m hm 32 (by decide))
  unfold someL at ht
  rw [Bool.and_eq_true] at ht
  have h2 : cutL 32 (t ++ 32 :: v) = (t, v, true) := cutL_at 32 t v (all_ne vis t ht.2 32 (by decide))
  unfold rM rT rV
  rw [h1]
  simp only [h2, and_self]
theorem req_line (m t : Bs) (n : Nat) (hm : tokL m = true) (ht : someL vis t = true) (hn : n = 0 ∨ n = 1) :
    rSt (reqLine m t n) = 0 ∧ reqM (reqLine m t n) = m ∧ reqT (reqLine m t n) = t ∧ reqN (reqLine m t n) = n := by
  obtain ⟨h1, h2, h3⟩ := req_cuts m t (vText n) hm ht
  obtain ⟨v1, v2⟩ := vText_ok n hn
  have hs : rSt (reqLine m t n) = 0 := by
    unfold rSt reqLine rIn
    rw [h1, h2, h3, hm, ht]
    exact v1
  refine ⟨hs, ?_, ?_, ?_⟩
  · unfold reqM; rw [if_pos hs]; exact h1
  · unfold reqT; rw [if_pos hs]; exact h2
  · unfold reqN; rw [if_pos hs]; unfold reqLine; rw [h3]; exact v2
theorem cut_nil_of (c : UInt8) (l : Bs) (h : (cutL c l).2.2 = false) : (cutL c l).2.1 = [] := by
  unfold cutL at h ⊢
  by_cases hc : l.contains c
  · rw [if_pos hc] at h; cases h
  · rw [if_neg hc]
/-- a line that is a request line is the one that says its parts -/
theorem req_is (l : Bs) (h : rSt l = 0) : l = reqLine (reqM l) (reqT l) (reqN l) ∧ tokL (reqM l) = true ∧ someL vis (reqT l) = true ∧ (reqN l = 0 ∨ reqN l = 1) := by
  have e1 : reqM l = rM l := by unfold reqM; rw [if_pos h]
  have e2 : reqT l = rT l := by unfold reqT; rw [if_pos h]
  have e3 : reqN l = vMi (rV l) := by unfold reqN; rw [if_pos h]
  rw [e1, e2, e3]
  unfold rSt at h
  split at h
  · next hin =>
    unfold rIn at hin
    rw [Bool.and_eq_true] at hin
    obtain ⟨hm, ht⟩ := hin
    obtain ⟨hv, hvt⟩ := vSt_zero _ h
    refine ⟨?_, hm, ht, hv⟩
    have s1 := cut_split 32 l
    have s2 := cut_split 32 (cutL 32 l).2.1
    have f1 : (cutL 32 l).2.2 = true := by
      cases hf : (cutL 32 l).2.2 with
      | true => rfl
      | false =>
        have := cut_nil_of 32 l hf
        unfold rT at ht
        rw [this, cut_empty] at ht
        cases ht
    have f2 : (cutL 32 (cutL 32 l).2.1).2.2 = true := by
      cases hf : (cutL 32 (cutL 32 l).2.1).2.2 with
      | true => rfl
      | false =>
        have := cut_nil_of 32 _ hf
        have hr : rV l = [] := this
        rw [hr] at h
        exact absurd h (by decide)
    rw [if_pos f1] at s1
    rw [if_pos f2] at s2
    rw [s2] at s1
    have hvt' : (cutL 32 (cutL 32 l).2.1).2.1 = vText (vMi (rV l)) := hvt
    rw [hvt'] at s1
    exact s1
  · cases h
theorem rSt_three (l : Bs) : rSt l = 0 ∨ rSt l = 400 ∨ rSt l = 505 := by
  unfold rSt; split
  · exact vSt_three _
  · simp

/-- the parts of a status line, or that it is none -/
def sV (l : Bs) : Bs := (cutL 32 l).1
def sD (l : Bs) : Bs := (cutL 32 (cutL 32 l).2.1).1
def sR (l : Bs) : Bs := (cutL 32 (cutL 32 l).2.1).2.1
def sB (l : Bs) : Bool := (cutL 32 (cutL 32 l).2.1).2.2
def sIn (n : Nat) (r : Bs) : Bool := decide (100 ≤ n) && decide (n ≤ 599) && r.all fun c => decide (1 ≤ kindOf c.toNat)
def sOk (l : Bs) : Bool := decide (vSt (sV l) = 0) && decide ((numL (sD l)).2 = 0) && decide ((sD l).length = 3) && sB l && sIn (numL (sD l)).1 (sR l)
def staM (l : Bs) : Nat := if sOk l then vMi (sV l) else 0
def staN (l : Bs) : Nat := if sOk l then (numL (sD l)).1 else 0
def staR (l : Bs) : Bs := if sOk l then sR l else []
def staE (l : Bs) : Nat := if sOk l then 0 else 4

def staLine (m n : Nat) (r : Bs) : Bs := vText m ++ 32 :: (digL n ++ 32 :: r)

theorem digL_three (n : Nat) (h0 : 100 ≤ n) (h1 : n ≤ 599) : digL n = [UInt8.ofNat (48 + n / 100), UInt8.ofNat (48 + n / 10 % 10), UInt8.ofNat (48 + n % 10)] := by
  rw [digL, dif_neg (by omega), digL, dif_neg (by omega), digL, dif_pos (by omega), Nat.div_div_eq_div_mul]; rfl
theorem digs_all (n : Nat) : (digL n).all isDig = true := by
  rw [List.all_eq_true]; exact digL_digits n n (Nat.le_refl _)
theorem num_digL (n : Nat) (h : n ≤ maxN) : numL (digL n) = (n, 0) := by
  have := num_zeros 0 n
  rw [List.replicate_zero, List.nil_append] at this
  rw [this, if_neg (by omega)]
theorem num_three_dig (l : Bs) (hl : l.length = 3) (h : (numL l).2 = 0) (h0 : 100 ≤ (numL l).1) (h1 : (numL l).1 ≤ 599) : l = digL (numL l).1 := by
  match l, hl with
  | [a, b, c], _ =>
    have hd : ∀ x ∈ [a, b, c], isDig x = true := by
      intro x hx
      cases hx' : isDig x with
      | true => rfl
      | false =>
        have : numL [a, b, c] = (0, 4) := by
          unfold numL
          rw [if_neg (by simp), numGo_bad _ _ ⟨x, hx, hx'⟩]
        rw [this] at h; cases h
    have da := dig_bd a (hd a (by simp))
    have db := dig_bd b (hd b (by simp))
    have dc := dig_bd c (hd c (by simp))
    have hv : (numL [a, b, c]).1 = (a.toNat - 48) * 100 + (b.toNat - 48) * 10 + (c.toNat - 48) := by
      unfold numL
      rw [if_neg (by simp), numGo_val _ _ hd]
      have e : valFrom 0 [a, b, c] = ((0 * 10 + (a.toNat - 48)) * 10 + (b.toNat - 48)) * 10 + (c.toNat - 48) := rfl
      rw [e, if_neg (by unfold maxN; omega)]
      show _ = _
      omega
    rw [hv] at h0 h1 ⊢
    rw [digL_three _ h0 h1]
    have e1 : ((a.toNat - 48) * 100 + (b.toNat - 48) * 10 + (c.toNat - 48)) / 100 = a.toNat - 48 := by omega
    have e2 : ((a.toNat - 48) * 100 + (b.toNat - 48) * 10 + (c.toNat - 48)) / 10 % 10 = b.toNat - 48 := by omega
    have e3 : ((a.toNat - 48) * 100 + (b.toNat - 48) * 10 + (c.toNat - 48)) % 10 = c.toNat - 48 := by omega
    rw [e1, e2, e3]
    have f : ∀ x : UInt8, 48 ≤ x.toNat → UInt8.ofNat (48 + (x.toNat - 48)) = x := fun x hx => by
      rw [show 48 + (x.toNat - 48) = x.toNat by omega]; exact UInt8.ofNat_toNat
    rw [f a da.1, f b db.1, f c dc.1]
theorem dig_ne (l : Bs) (h : l.all isDig = true) (c : UInt8) (hc : isDig c = false) : ∀ x ∈ l, x ≠ c := all_ne isDig l h c hc

theorem vText_ne (m : Nat) (h : m = 0 ∨ m = 1) : ∀ x ∈ vText m, x ≠ (32 : UInt8) := by
  rcases h with rfl | rfl <;> decide
theorem sta_line (m n : Nat) (r : Bs) (hm : m = 0 ∨ m = 1) (hr : sIn n r = true) :
    sOk (staLine m n r) = true ∧ staM (staLine m n r) = m ∧ staN (staLine m n r) = n ∧ staR (staLine m n r) = r ∧ staE (staLine m n r) = 0 := by
  have hr' := hr
  unfold sIn at hr'
  simp only [Bool.and_eq_true, decide_eq_true_eq] at hr'
  obtain ⟨⟨h0, h1⟩, hr2⟩ := hr'
  have c1 : cutL 32 (staLine m n r) = (vText m, digL n ++ 32 :: r, true) := cutL_at 32 _ _ (vText_ne m hm)
  have c2 : cutL 32 (digL n ++ 32 :: r) = (digL n, r, true) := cutL_at 32 _ _ (dig_ne _ (digs_all n) 32 (by decide))
  obtain ⟨v1, v2⟩ := vText_ok m hm
  have hnum := num_digL n (by unfold maxN; omega)
  have hlen : (digL n).length = 3 := by rw [digL_three n h0 h1]; rfl
  have e1 : sV (staLine m n r) = vText m := by unfold sV; rw [c1]
  have e2 : sD (staLine m n r) = digL n := by unfold sD; rw [c1]; simp only [c2]
  have e3 : sR (staLine m n r) = r := by unfold sR; rw [c1]; simp only [c2]
  have e4 : sB (staLine m n r) = true := by unfold sB; rw [c1]; simp only [c2]
  have hs : sOk (staLine m n r) = true := by
    unfold sOk
    rw [e1, e2, e3, e4, v1, hnum, hlen, hr]; rfl
  refine ⟨hs, ?_, ?_, ?_, ?_⟩
  · unfold staM; rw [if_pos hs, e1]; exact v2
  · unfold staN; rw [if_pos hs, e2, hnum]
  · unfold staR; rw [if_pos hs]; exact e3
  · unfold staE; rw [if_pos hs]
theorem sta_is (l : Bs) (h : sOk l = true) : l = staLine (staM l) (staN l) (staR l) ∧ (staM l = 0 ∨ staM l = 1) ∧ sIn (staN l) (staR l) = true := by
  have e1 : staM l = vMi (sV l) := by unfold staM; rw [if_pos h]
  have e2 : staN l = (numL (sD l)).1 := by unfold staN; rw [if_pos h]
  have e3 : staR l = sR l := by unfold staR; rw [if_pos h]
  rw [e1, e2, e3]
  have h' := h
  unfold sOk at h'
  simp only [Bool.and_eq_true, decide_eq_true_eq] at h'
  obtain ⟨⟨⟨⟨hv, hn⟩, hl⟩, hb⟩, hin⟩ := h'
  obtain ⟨hm, hvt⟩ := vSt_zero _ hv
  refine ⟨?_, hm, hin⟩
  have hin' := hin
  unfold sIn at hin'
  simp only [Bool.and_eq_true, decide_eq_true_eq] at hin'
  have hd := num_three_dig (sD l) hl hn hin'.1.1 hin'.1.2
  have s1 := cut_split 32 l
  have s2 := cut_split 32 (cutL 32 l).2.1
  have f1 : (cutL 32 l).2.2 = true := by
    cases hf : (cutL 32 l).2.2 with
    | true => rfl
    | false =>
      have := cut_nil_of 32 l hf
      unfold sB at hb
      rw [this, cut_empty] at hb
      cases hb
  unfold sB at hb
  rw [if_pos f1] at s1
  rw [if_pos hb] at s2
  rw [s2] at s1
  have hd' : (cutL 32 (cutL 32 l).2.1).1 = digL (numL (sD l)).1 := hd
  have hv' : (cutL 32 l).1 = vText (vMi (sV l)) := hvt
  rw [hd', hv'] at s1
  exact s1
/-- no text is both -/
theorem not_both (l : Bs) (h : rSt l = 0) : sOk l = false := by
  cases hs : sOk l with
  | false => rfl
  | true =>
    obtain ⟨e, hm, -⟩ := sta_is l hs
    have c1 : cutL 32 l = (vText (staM l), digL (staN l) ++ 32 :: staR l, true) := by
      conv => lhs; rw [e]
      exact cutL_at 32 _ _ (vText_ne _ hm)
    obtain ⟨-, ht, -, -⟩ := req_is l h
    unfold reqM at ht
    rw [if_pos h] at ht
    unfold rM at ht
    rw [c1] at ht
    have ht' : tokL (vText (staM l)) = true := ht
    rcases hm with hm | hm <;> rw [hm] at ht' <;> exact absurd ht' (by decide)
end Tk
end Go.Proofs.YtnbipbeeengiaaaGreatDoor
namespace Go.Proofs.YtnbipbeeengiaaaGreatDoor
namespace Tk

def isLet (c : UInt8) : Bool := decide (65 ≤ c.toNat ∧ c.toNat ≤ 90) || decide (97 ≤ c.toNat ∧ c.toNat ≤ 122)
def marksL : Bs := [45, 46, 95, 126, 33, 36, 38, 39, 40, 41, 42, 43, 44, 59, 61, 37]
def inName (c : UInt8) : Bool := isLet c || isDig c || marksL.contains c
def inAddr (c : UInt8) : Bool := isDig c || decide (65 ≤ c.toNat ∧ c.toNat ≤ 70) || decide (97 ≤ c.toNat ∧ c.toNat ≤ 102) || decide (c.toNat = 58) || decide (c.toNat = 46)

/-- where the brackets of an address end; nought without brackets -/
def cIn (l : Bs) : Nat := (Lib.indexByte l 93 + 1).toNat
def hostN (l : Bs) : Bs := l.take (cIn l + (cutL 58 (l.drop (cIn l))).1.length)
def hostP (l : Bs) : Bs := (cutL 58 (l.drop (cIn l))).2.1
def brOk (n : Bs) : Bool := Lib.hasSuffix (n.drop 1) [93] && someL inAddr ((n.drop 1).take ((n.drop 1).length - 1))
def nameOk (n : Bs) : Bool := if Lib.hasPrefix n [91] then brOk n else someL inName n
def portOk (q : Bs) : Bool := decide (q.length ≤ 5) && q.all isDig
def hostL (l : Bs) : Bool := portOk (hostP l) && nameOk (hostN l)

theorem ix_none (c : UInt8) : ∀ l : Bs, (∀ x ∈ l, x ≠ c) → Lib.indexByte l c = -1
  | [], _ => rfl
  | a :: t, h => by
    have h1 : (a == c) = false := beq_eq_false_iff_ne.2 (h a (by simp))
    unfold Lib.indexByte
    rw [h1, ix_none c t fun x hx => h x (by simp [hx])]
    simp
theorem ix_at (c : UInt8) (r : Bs) : ∀ a : Bs, (∀ x ∈ a, x ≠ c) → Lib.indexByte (a ++ c :: r) c = a.length
  | [], _ => by unfold Lib.indexByte; simp
  | b :: t, h => by
    have h1 : (b == c) = false := beq_eq_false_iff_ne.2 (h b (by simp))
    rw [List.cons_append]
    unfold Lib.indexByte
    rw [h1, ix_at c r t fun x hx => h x (by simp [hx])]
    have h2 : ((t.length : Int) == -1) = false := by rw [beq_eq_false_iff_ne]; omega
    rw [h2]; simp
theorem ix_le (c : UInt8) : ∀ l : Bs, Lib.indexByte l c + 1 ≤ l.length
  | [] => by simp [Lib.indexByte]
  | a :: t => by
    have := ix_le c t
    unfold Lib.indexByte
    split
    · simp only [List.length_cons]; omega
    · split <;> simp <;> omega
theorem cIn_le (l : Bs) : cIn l ≤ l.length := by
  have := ix_le 93 l
  unfold cIn; omega

/-- a name of a host: its bytes, or an address in brackets -/
theorem name_form (n : Bs) (h : nameOk n = true) : (n.head? ≠ some 91 ∧ someL inName n = true) ∨ ∃ a, n = 91 :: (a ++ [93]) ∧ someL inAddr a = true := by
  unfold nameOk at h
  match n, h with
  | [], h => exact absurd h (by decide)
  | c :: t, h =>
    by_cases e : c = 91
    · subst e
      right
      have hp : Lib.hasPrefix (91 :: t) [91] = true := by unfold Lib.hasPrefix; simp
      rw [if_pos hp] at h
      unfold brOk at h
      rw [Bool.and_eq_true] at h
      obtain ⟨hs, ha⟩ := h
      rw [List.drop_one, List.tail_cons] at hs ha
      unfold Lib.hasSuffix at hs
      obtain ⟨a, rfl⟩ := List.isSuffixOf_iff_suffix.1 hs
      refine ⟨a, rfl, ?_⟩
      rw [List.length_append, List.length_singleton, Nat.add_sub_cancel, List.take_left] at ha
      exact ha
    · left
      have hp : Lib.hasPrefix (c :: t) [91] = false := by unfold Lib.hasPrefix; simp [List.isPrefixOf]; exact fun h => e h.symm
      rw [if_neg (by rw [hp]; simp)] at h
      exact ⟨by simpa using e, h⟩
theorem name_plain (n : Bs) (h : n.head? ≠ some 91) : nameOk n = someL inName n := by
  unfold nameOk
  rw [if_neg]
  match n, h with
  | [], _ => decide
  | c :: t, h =>
    have e : c ≠ 91 := by simpa using h
    unfold Lib.hasPrefix; simp [List.isPrefixOf]; exact fun h => e h.symm
theorem name_br (a : Bs) : nameOk (91 :: (a ++ [93])) = someL inAddr a := by
  unfold nameOk
  rw [if_pos (by unfold Lib.hasPrefix; simp)]
  unfold brOk
  rw [List.drop_one, List.tail_cons, List.length_append, List.length_singleton, Nat.add_sub_cancel, List.take_left]
  have : Lib.hasSuffix (a ++ [93]) [93] = true := by
    unfold Lib.hasSuffix; exact List.isSuffixOf_iff_suffix.2 ⟨a, rfl⟩
  rw [this, Bool.true_and]

theorem someL_all {p : UInt8 → Bool} {l : Bs} (h : someL p l = true) : l.all p = true := by
  unfold someL at h; rw [Bool.and_eq_true] at h; exact h.2
theorem port_dig {q : Bs} (h : portOk q = true) : q.all isDig = true := by
  unfold portOk at h; rw [Bool.and_eq_true] at h; exact h.2

/-- a host: a name, and perhaps a colon and a port -/
def HostG (l : Bs) (n q : Bs) (f : Bool) : Prop := l = n ++ (if f then 58 :: q else []) ∧ (f = false → q = []) ∧ nameOk n = true ∧ portOk q = true

theorem tail_no93 (q : Bs) (f : Bool) (hq : portOk q = true) : ∀ x ∈ (if f then 58 :: q else [] : Bs), x ≠ (93 : UInt8) := by
  intro x hx
  cases f
  · simp at hx
  · rcases List.mem_cons.1 hx with rfl | hx
    · decide
    · exact all_ne isDig q (port_dig hq) 93 (by decide) x hx

theorem host_cut {l n q : Bs} {f : Bool} (h : HostG l n q f) : hostN l = n ∧ hostP l = q := by
  obtain ⟨rfl, hf, hn, hq⟩ := h
  have ht := tail_no93 q f hq
  rcases name_form n hn with ⟨-, hi⟩ | ⟨a, rfl, ha⟩
  · have hi2 := someL_all hi
    have h0 : cIn (n ++ (if f then 58 :: q else [])) = 0 := by
      unfold cIn
      rw [ix_none]
      · rfl
      · intro x hx
        rcases List.mem_append.1 hx with hx | hx
        · exact all_ne inName n hi2 93 (by decide) x hx
        · exact ht x hx
    unfold hostN hostP
    rw [h0, List.drop_zero, Nat.zero_add]
    have hc : cutL 58 (n ++ (if f then 58 :: q else [])) = (n, q, f) := by
      cases f
      · simp only [Bool.false_eq_true, if_false, List.append_nil]
        rw [cut_none 58 n (all_ne inName n hi2 58 (by decide)), hf rfl]
      · simp only [if_true]
        exact cutL_at 58 n q (all_ne inName n hi2 58 (by decide))
    rw [hc]
    simp
  · have ha2 := someL_all ha
    have h0 : cIn (91 :: (a ++ [93]) ++ (if f then 58 :: q else [])) = a.length + 2 := by
      have e : 91 :: (a ++ [93]) ++ (if f then 58 :: q else [] : Bs) = (91 :: a) ++ 93 :: (if f then 58 :: q else []) := by simp
      unfold cIn
      rw [e, ix_at]
      · simp only [List.length_cons]; omega
      · intro x hx
        rcases List.mem_cons.1 hx with rfl | hx
        · decide
        · exact all_ne inAddr a ha2 93 (by decide) x hx
    have hlen : (91 :: (a ++ [93])).length = a.length + 2 := by simp
    have hd : (91 :: (a ++ [93]) ++ (if f then 58 :: q else [] : Bs)).drop (a.length + 2) = (if f then 58 :: q else []) := by
      rw [← hlen, List.drop_left]
    unfold hostN hostP
    rw [h0, hd]
    have hc : cutL 58 (if f then 58 :: q else []) = ([], q, f) := by
      cases f
      · rw [hf rfl]; rfl
      · exact cutL_at 58 [] q (by simp)
    rw [hc]
    refine ⟨?_, rfl⟩
    simp only [List.length_nil, Nat.add_zero]
    rw [← hlen, List.take_left]

theorem host_of {l n q : Bs} {f : Bool} (h : HostG l n q f) : hostL l = true := by
  obtain ⟨h1, h2⟩ := host_cut h
  obtain ⟨-, -, hn, hq⟩ := h
  unfold hostL
  rw [h1, h2, hn, hq]; rfl
theorem host_is (l : Bs) (h : hostL l = true) : ∃ f, HostG l (hostN l) (hostP l) f := by
  have hh := h
  unfold hostL at hh
  rw [Bool.and_eq_true] at hh
  refine ⟨(cutL 58 (l.drop (cIn l))).2.2, ?_, ?_, hh.2, hh.1⟩
  · have hs := cut_split 58 (l.drop (cIn l))
    unfold hostN hostP
    have e : l.take (cIn l + (cutL 58 (l.drop (cIn l))).1.length) = l.take (cIn l) ++ (cutL 58 (l.drop (cIn l))).1 := by
      rw [List.take_add]
      congr 1
      generalize hA : (cutL 58 (l.drop (cIn l))) = A at *
      rw [hs]
      exact List.take_left' rfl
    rw [e, List.append_assoc, ← hs, List.take_append_drop]
  · intro hf
    exact cut_nil_of 58 _ hf

theorem host_iff (l : Bs) : hostL l = true ↔ ∃ n q f, HostG l n q f :=
  ⟨fun h => by obtain ⟨f, hf⟩ := host_is l h; exact ⟨_, _, _, hf⟩, fun ⟨_, _, _, h⟩ => host_of h⟩

theorem split_first {a b r s : Bs} {c : UInt8} (ha : ∀ x ∈ a, x ≠ c) (hb : ∀ x ∈ b, x ≠ c) (h : a ++ c :: r = b ++ c :: s) : a = b ∧ r = s := by
  have h1 := cutL_at c a r ha
  rw [h, cutL_at c b s hb] at h1
  injection h1 with e1 e2
  injection e2 with e3 e4
  exact ⟨e1.symm, e3.symm⟩

/-- with a port -/
theorem host_port (m q : Bs) (h1 : (∀ x ∈ m, x ≠ (58 : UInt8)) ∨ m.head? = some 91) (h2 : m.head? = some 91 → m.getLast? = some 93) :
    hostL (m ++ 58 :: q) = (hostL m && portOk q) := by
  rw [Bool.eq_iff_iff, Bool.and_eq_true, host_iff, host_iff]
  constructor
  · rintro ⟨n, p, f, he, hf, hn, hp⟩
    have hm : m = n ∧ q = p ∧ f = true := by
      cases f
      · exfalso
        rw [if_neg (by simp), List.append_nil] at he
        rcases name_form n hn with ⟨h91, hi⟩ | ⟨a, rfl, ha⟩
        · exact all_ne inName n (someL_all hi) 58 (by decide) 58 (by rw [← he]; simp) rfl
        · match m, he with
          | [], he => injection he with e _; exact absurd e (by decide)
          | c :: t, he =>
            have hc : c = 91 := by injection he
            subst hc
            have hl := h2 rfl
            obtain ⟨t2, ht2⟩ := List.getLast?_eq_some_iff.1 hl
            have hmem : (93 : UInt8) ∈ a := by
              have ht : t ++ 58 :: q = a ++ [93] := by injection he
              match t2, ht2 with
              | [], ht2 => injection ht2 with e _; exact absurd e (by decide)
              | d :: t3, ht2 =>
                have ht3 : t = t3 ++ [93] := by injection ht2
                rw [ht3, List.append_assoc] at ht
                rcases List.eq_nil_or_concat q with hq | ⟨q', z, hq⟩
                · subst hq
                  have := congrArg List.getLast? ht
                  simp at this
                · rw [List.concat_eq_append] at hq
                  subst hq
                  have e2 : t3 ++ ([93] ++ 58 :: (q' ++ [z])) = (t3 ++ 93 :: 58 :: q') ++ [z] := by simp
                  rw [e2] at ht
                  have := List.append_inj' ht rfl
                  rw [← this.1]; simp
            exact all_ne inAddr a (someL_all ha) 93 (by decide) 93 hmem rfl
      · rw [if_pos rfl] at he
        rcases name_form n hn with ⟨h91, hi⟩ | ⟨a, rfl, ha⟩
        · have hn58 := all_ne inName n (someL_all hi) 58 (by decide)
          rcases h1 with h1 | h1
          · obtain ⟨e1, e2⟩ := split_first h1 hn58 he
            exact ⟨e1, e2, rfl⟩
          · exfalso
            match m, h1 with
            | c :: t, h1 =>
              have hc : c = 91 := by simpa using h1
              subst hc
              match n, hi with
              | d :: n', hi =>
                have hd : (91 : UInt8) = d := by injection he
                subst hd
                exact h91 rfl
        · match m, he with
          | [], he => injection he with e _; exact absurd e (by decide)
          | c :: t, he =>
            have hc : c = 91 := by injection he
            subst hc
            obtain ⟨t2, ht2⟩ := List.getLast?_eq_some_iff.1 (h2 rfl)
            have ht : t ++ 58 :: q = a ++ 93 :: 58 :: p := by
              have : t ++ 58 :: q = (a ++ [93]) ++ 58 :: p := by injection he
              rw [this]; simp
            match t2, ht2 with
            | [], ht2 => injection ht2 with e _; exact absurd e (by decide)
            | d :: t3, ht2 =>
              have ht3 : t = t3 ++ [93] := by injection ht2
              have ha93 := all_ne inAddr a (someL_all ha) 93 (by decide)
              by_cases hin : ∀ x ∈ t3, x ≠ (93 : UInt8)
              · rw [ht3, List.append_assoc] at ht
                obtain ⟨e1, e2⟩ := split_first hin ha93 ht
                injection e2 with _ e3
                subst e1 e3 ht3
                exact ⟨by simp, rfl, rfl⟩
              · exfalso
                have hin : (93 : UInt8) ∈ t3 := by
                  apply Classical.byContradiction
                  intro hno
                  exact hin fun x hx e => hno (e ▸ hx)
                obtain ⟨u, v, huv, hu⟩ : ∃ u v, t3 = u ++ 93 :: v ∧ ∀ x ∈ u, x ≠ (93 : UInt8) := by
                  have hs := cut_split 93 t3
                  have hf : (cutL 93 t3).2.2 = true := by unfold cutL; rw [if_pos (by simpa using hin)]
                  rw [if_pos hf] at hs
                  exact ⟨_, _, hs, cut_first 93 t3⟩
                rw [ht3, huv] at ht
                have e4 : u ++ 93 :: v ++ [93] ++ 58 :: q = u ++ 93 :: (v ++ [93] ++ 58 :: q) := by simp
                rw [e4] at ht
                obtain ⟨-, e2⟩ := split_first hu ha93 ht
                have hp93 : ∀ x ∈ (58 :: p : Bs), x ≠ (93 : UInt8) := by
                  have := tail_no93 p true hp
                  rw [if_pos rfl] at this
                  exact this
                exact hp93 93 (by rw [← e2]; simp) rfl
    obtain ⟨rfl, rfl, rfl⟩ := hm
    exact ⟨⟨m, [], false, by simp, fun _ => rfl, hn, rfl⟩, hp⟩
  · rintro ⟨⟨n, p, f, he, hf, hn, hp⟩, hq⟩
    cases f
    · rw [if_neg (by simp), List.append_nil] at he
      subst he
      exact ⟨m, q, true, by simp, by simp, hn, hq⟩
    · exfalso
      rw [if_pos rfl] at he
      subst he
      rcases h1 with h1 | h1
      · exact h1 58 (by simp) rfl
      · have hl := h2 h1
        have hp' : (n ++ 58 :: p).getLast? = (58 :: p).getLast? := by
          rw [List.getLast?_append]
          simp [List.getLast?_cons]
        rw [hp'] at hl
        have hm : (93 : UInt8) ∈ (58 :: p : Bs) := List.mem_of_getLast? hl
        have := tail_no93 p true hp
        rw [if_pos rfl] at this
        exact this 93 hm rfl

theorem lowB_cases (c : UInt8) : (lowB c = c ∧ ¬ (65 ≤ c.toNat ∧ c.toNat ≤ 90)) ∨ (65 ≤ c.toNat ∧ c.toNat ≤ 90 ∧ (lowB c).toNat = c.toNat + 32) := by
  by_cases h : 65 ≤ c.toNat ∧ c.toNat ≤ 90
  · right
    have := lowB_up c h.1 h.2
    exact ⟨h.1, h.2, by omega⟩
  · exact .inl ⟨lowB_same c h, h⟩
theorem low_all (p : UInt8 → Bool) (hp : ∀ c, p (lowB c) = p c) (l : Bs) : (lowL l).all p = l.all p := by
  unfold lowL; rw [List.all_map]; congr 1; funext c; exact hp c
theorem u8_all (p : UInt8 → Bool) (h : ((List.range 256).all fun n => p (UInt8.ofNat n)) = true) (c : UInt8) : p c = true := by
  have := List.all_eq_true.1 h c.toNat (by simp; exact c.toNat_lt)
  rwa [UInt8.ofNat_toNat] at this
theorem inName_low (c : UInt8) : inName (lowB c) = inName c := by
  have := u8_all (fun c => inName (lowB c) == inName c) (by decide +kernel) c
  simpa using this
theorem inAddr_low (c : UInt8) : inAddr (lowB c) = inAddr c := by
  have := u8_all (fun c => inAddr (lowB c) == inAddr c) (by decide +kernel) c
  simpa using this
theorem isDig_low (c : UInt8) : isDig (lowB c) = isDig c := by
  have := u8_all (fun c => isDig (lowB c) == isDig c) (by decide +kernel) c
  simpa using this
theorem low_is (d : UInt8) (hd : d = 58 ∨ d = 91 ∨ d = 93) (c : UInt8) : lowB c = d ↔ c = d := by
  have h : (decide (lowB c = d) == decide (c = d)) = true := by
    rcases hd with rfl | rfl | rfl
    · exact u8_all (fun c => decide (lowB c = 58) == decide (c = 58)) (by decide +kernel) c
    · exact u8_all (fun c => decide (lowB c = 91) == decide (c = 91)) (by decide +kernel) c
    · exact u8_all (fun c => decide (lowB c = 93) == decide (c = 93)) (by decide +kernel) c
  simpa using h
theorem some_low (p : UInt8 → Bool) (hp : ∀ c, p (lowB c) = p c) (l : Bs) : someL p (lowL l) = someL p l := by
  unfold someL
  rw [low_all p hp]
  congr 1
  cases l <;> rfl
theorem name_low (n : Bs) (h : nameOk n = true) : nameOk (lowL n) = true := by
  rcases name_form n h with ⟨h91, hi⟩ | ⟨a, rfl, ha⟩
  · rw [name_plain]
    · rw [some_low inName inName_low]; exact hi
    · intro e
      match n, e with
      | c :: t, e =>
        have : lowB c = 91 := by simpa [lowL] using e
        exact h91 (by simpa using (low_is 91 (by decide) c).1 this)
  · have e : lowL (91 :: (a ++ [93])) = 91 :: (lowL a ++ [93]) := by simp [lowL]; decide
    rw [e, name_br, some_low inAddr inAddr_low]; exact ha
theorem name_unlow (n : Bs) (h : nameOk (lowL n) = true) : nameOk n = true := by
  by_cases h91 : n.head? = some 91
  · match n, h91 with
    | c :: t, h91 =>
      have hc : c = 91 := by simpa using h91
      subst hc
      rcases name_form _ h with ⟨h', -⟩ | ⟨a, he, ha⟩
      · exact absurd rfl h'
      · have ht : lowL t = a ++ [93] := by
          have : lowL (91 :: t) = 91 :: lowL t := rfl
          rw [this] at he
          injection he
        obtain ⟨t1, t2, rfl, e1, e2⟩ := List.map_eq_append_iff.1 ht
        have ht2 : t2 = [93] := by
          have hl : t2.length = 1 := by have := congrArg List.length e2; simpa using this
          obtain ⟨x, rfl⟩ := List.length_eq_one_iff.1 hl
          have : lowB x = 93 := by simpa using e2
          rw [(low_is 93 (by decide) x).1 this]
        subst ht2
        rw [name_br, ← some_low inAddr inAddr_low]
        have e1' : lowL t1 = a := e1
        rw [e1']; exact ha
  · rw [name_plain n h91, ← some_low inName inName_low]
    rw [name_plain] at h
    · exact h
    · intro e
      match n, e with
      | c :: t, e =>
        have : lowB c = 91 := by simpa [lowL] using e
        exact h91 (by simpa using (low_is 91 (by decide) c).1 this)
theorem port_low (q : Bs) : portOk (lowL q) = portOk q := by
  unfold portOk; rw [low_all isDig isDig_low, length_lowL]
theorem host_low (l : Bs) : hostL (lowL l) = hostL l := by
  rw [Bool.eq_iff_iff, host_iff, host_iff]
  constructor
  · rintro ⟨n, q, f, he, hf, hn, hq⟩
    obtain ⟨n', r, rfl, e1, e2⟩ := List.map_eq_append_iff.1 he
    have e1' : lowL n' = n := e1
    subst e1'
    cases f
    · rw [if_neg (by simp)] at e2
      have : r = [] := by simpa using e2
      subst this
      exact ⟨n', [], false, by simp, fun _ => rfl, name_unlow _ hn, rfl⟩
    · rw [if_pos rfl] at e2
      match r, e2 with
      | c :: q', e2 =>
        rw [List.map_cons] at e2
        injection e2 with ec eq
        have eq' : lowL q' = q := eq
        subst eq'
        rw [(low_is 58 (by decide) c).1 ec]
        exact ⟨n', q', true, by simp, by simp, name_unlow _ hn, by rw [← port_low]; exact hq⟩
  · rintro ⟨n, q, f, rfl, hf, hn, hq⟩
    refine ⟨lowL n, lowL q, f, ?_, fun h => by rw [hf h]; rfl, name_low n hn, by rw [port_low]; exact hq⟩
    cases f
    · simp
    · simp [lowL]; decide

/-- which bytes a host has -/
theorem name_bytes (n : Bs) (h : nameOk n = true) (p : UInt8 → Bool) (hp : ∀ c, (inName c || inAddr c || decide (c = 91) || decide (c = 93)) = true → p c = true) : n.all p = true := by
  rw [List.all_eq_true]
  intro x hx
  apply hp
  rcases name_form n h with ⟨-, hi⟩ | ⟨a, rfl, ha⟩
  · have := List.all_eq_true.1 (someL_all hi) x hx
    rw [this]; simp
  · have := List.all_eq_true.1 (someL_all ha)
    simp at hx
    rcases hx with rfl | hx | rfl
    · decide
    · rw [this x hx]; simp
    · decide
theorem host_bytes (l : Bs) (h : hostL l = true) (p : UInt8 → Bool) (hp : ∀ c, (inName c || inAddr c || decide (c = 91) || decide (c = 93)) = true → p c = true) : l.all p = true := by
  obtain ⟨n, q, f, rfl, hf, hn, hq⟩ := (host_iff l).1 h
  rw [List.all_append, name_bytes n hn p hp, Bool.true_and]
  cases f
  · rfl
  · rw [if_pos rfl, List.all_cons, hp 58 (by decide), Bool.true_and, List.all_eq_true]
    intro x hx
    apply hp
    have := List.all_eq_true.1 (port_dig hq) x hx
    unfold inName
    rw [this]; simp

theorem hb_of (p : UInt8 → Bool) (h : ((List.range 256).all fun n => !(inName (UInt8.ofNat n) || inAddr (UInt8.ofNat n) || decide (UInt8.ofNat n = 91) || decide (UInt8.ofNat n = 93)) || p (UInt8.ofNat n)) = true) (c : UInt8) (hc : (inName c || inAddr c || decide (c = 91) || decide (c = 93)) = true) : p c = true := by
  have := u8_all (fun c => !(inName c || inAddr c || decide (c = 91) || decide (c = 93)) || p c) h c
  simp only [hc] at this
  simpa using this
/-- targets -/
def connectL : Bs := [67, 79, 78, 78, 69, 67, 84]
def optionsL : Bs := [79, 80, 84, 73, 79, 78, 83]
def schemeL : Bs := [104, 116, 116, 112, 58, 47, 47]
def noEnd (c : UInt8) : Bool := !(c == 47 || c == 63)
def tHost (s : Bs) : Bs := (s.drop 7).takeWhile noEnd
def tRest (s : Bs) : Bs := (s.drop 7).dropWhile noEnd
def tPath (s : Bs) : Bs := if Lib.hasPrefix (tRest s) [47] then tRest s else 47 :: tRest s
def absOk (s : Bs) : Bool := decide (lowL (s.take 7) = schemeL) && hostL (tHost s)
def tgtOk (s : Bs) : Bool := someL vis s && !s.contains 35

/-- the form of a target, its host and its path; nought, and none, if it is refused -/
def tgt (m s : Bs) : Nat × Bs × Bs :=
  if tgtOk s = false then (0, [], [])
  else if m = connectL then (if hostP s ≠ [] ∧ hostL s = true then (3, lowL s, []) else (0, [], []))
  else if m = optionsL ∧ s = [42] then (4, [], [])
  else if s.head? = some 47 then (1, [], s)
  else if absOk s = true then (2, lowL (tHost s), tPath s) else (0, [], [])
def tgtSt (m s : Bs) : Nat := if (tgt m s).1 = 0 then 400 else 0

theorem tgt_shape (m s : Bs) : ((tgt m s).1 = 0 ∧ (tgt m s).2 = ([], [])) ∨ ((tgt m s).1 = 1 ∧ (tgt m s).2 = ([], s) ∧ s.head? = some 47 ∧ tgtOk s = true ∧ m ≠ connectL) ∨ ((tgt m s).1 = 2 ∧ (tgt m s).2.2 ≠ []) ∨ ((tgt m s).1 = 3 ∧ (tgt m s).2.2 = []) ∨ ((tgt m s).1 = 4 ∧ (tgt m s).2.2 = []) := by
  unfold tgt
  by_cases h1 : tgtOk s = false
  · rw [if_pos h1]; simp
  · rw [if_neg h1]
    by_cases h2 : m = connectL
    · rw [if_pos h2]
      split <;> simp
    · rw [if_neg h2]
      by_cases h3 : m = optionsL ∧ s = [42]
      · rw [if_pos h3]; simp
      · rw [if_neg h3]
        by_cases h4 : s.head? = some 47
        · rw [if_pos h4]
          right; left
          exact ⟨rfl, rfl, h4, by simpa using h1, h2⟩
        · rw [if_neg h4]
          by_cases h5 : absOk s = true
          · rw [if_pos h5]
            right; right; left
            refine ⟨rfl, ?_⟩
            show tPath s ≠ []
            unfold tPath
            split
            · next h =>
              intro e
              rw [e] at h
              exact absurd h (by decide)
            · simp
          · rw [if_neg h5]; simp

theorem takeWhile_app (p : UInt8 → Bool) (a b : Bs) (h : a.all p = true) : (a ++ b).takeWhile p = a ++ b.takeWhile p ∧ (a ++ b).dropWhile p = b.dropWhile p := by
  have h' : ∀ x ∈ a, p x = true := fun x hx => List.all_eq_true.1 h x hx
  exact ⟨List.takeWhile_append_of_pos h', List.dropWhile_append_of_pos h'⟩

/-- a path after a host -/
theorem tgt_abs (m pre h p : Bs) (hm : m ≠ connectL) (hpre : pre.length = 7) (hlow : lowL pre = schemeL) (hvis : pre.all vis = true) (hsh : pre.contains 35 = false) (hh : hostL h = true) (hp0 : p.head? = some 47) (hp : tgtOk p = true) :
    tgt m (pre ++ h ++ p) = (2, lowL h, p) := by
  have hv : tgtOk (pre ++ h ++ p) = true := by
    unfold tgtOk someL at hp ⊢
    simp only [Bool.and_eq_true, Bool.not_eq_true'] at hp
    have h1 := host_bytes h hh vis (hb_of vis (by decide +kernel))
    have h2 : h.contains 35 = false := by
      have := host_bytes h hh (fun c => c != 35) (hb_of _ (by decide +kernel))
      rw [List.contains_eq_any_beq]
      rw [List.any_eq_false]
      intro x hx
      have := List.all_eq_true.1 this x hx
      simp at this ⊢
      exact fun e => this e.symm
    have e : (pre ++ h ++ p).contains 35 = false := by
      rw [List.contains_eq_any_beq] at hsh h2 ⊢
      have hp2 := hp.2
      rw [List.contains_eq_any_beq] at hp2
      rw [List.any_append, List.any_append, hsh, h2, hp2]; rfl
    rw [e, List.all_append, List.all_append, hvis, h1, hp.1.2]
    match pre, hpre with
    | c :: t, _ => rfl
  have hd : (pre ++ h ++ p).drop 7 = h ++ p := by
    rw [List.append_assoc, ← hpre, List.drop_left]
  have ht : (pre ++ h ++ p).take 7 = pre := by
    rw [List.append_assoc, ← hpre, List.take_left]
  obtain ⟨p', rfl⟩ : ∃ p', p = 47 :: p' := by
    match p, hp0 with
    | c :: t, h0 => exact ⟨t, by rw [show c = 47 by simpa using h0]⟩
  have hno := host_bytes h hh noEnd (hb_of noEnd (by decide +kernel))
  obtain ⟨w1, w2⟩ := takeWhile_app noEnd h (47 :: p') hno
  have w3 : (47 :: p' : Bs).takeWhile noEnd = [] := by rw [List.takeWhile_cons]; rfl
  have w4 : (47 :: p' : Bs).dropWhile noEnd = 47 :: p' := by rw [List.dropWhile_cons]; rfl
  have e1 : tHost (pre ++ h ++ 47 :: p') = h := by unfold tHost; rw [hd, w1, w3, List.append_nil]
  have e2 : tRest (pre ++ h ++ 47 :: p') = 47 :: p' := by unfold tRest; rw [hd, w2, w4]
  have e3 : tPath (pre ++ h ++ 47 :: p') = 47 :: p' := by
    unfold tPath
    rw [e2, if_pos (by unfold Lib.hasPrefix; simp)]
  have hhead : lowL (pre ++ h ++ 47 :: p') = schemeL ++ lowL h ++ lowL (47 :: p') := by
    rw [← hlow]; simp [lowL]
  have n1 : ¬ (m = optionsL ∧ pre ++ h ++ 47 :: p' = [42]) := by
    rintro ⟨-, e⟩
    have := congrArg List.length e
    simp only [List.length_append, List.length_cons, List.length_nil] at this
    omega
  have n2 : (pre ++ h ++ 47 :: p').head? ≠ some 47 := by
    intro e
    match pre, hpre, hlow with
    | c :: t, _, hl =>
      have hc : c = 47 := by simpa using e
      subst hc
      have h1 : (lowL (47 :: t)).head? = some 47 := by simp [lowL]; decide
      rw [hl] at h1
      exact absurd h1 (by decide)
  unfold tgt
  rw [if_neg (by rw [hv]; simp), if_neg hm, if_neg n1, if_neg n2, if_pos (by unfold absOk; rw [ht, hlow, e1, hh]; rfl), e1, e3]
end Tk
end Go.Proofs.YtnbipbeeengiaaaGreatDoor
