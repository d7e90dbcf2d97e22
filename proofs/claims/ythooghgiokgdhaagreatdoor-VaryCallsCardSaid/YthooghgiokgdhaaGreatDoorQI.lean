/- Sta1 RefA, put together. -/
import Derived.Test.YthooghgiokgdhaaGreatDoorQH
namespace Go.Proofs.YthooghgiokgdhaaGreatDoor
namespace Tk

def isLet (c : UInt8) : Bool := decide (65 ≤ c.toNat ∧ c.toNat ≤ 90) || decide (97 ≤ c.toNat ∧ c.toNat ≤ 122)
def marksL : Bs := [45, 46, 95, 126, 33, 36, 38, 39, 40, 41, 42, 43, 44, 59, 61, 37]
def inName (c : UInt8) : Bool := isLet c || isDig c || marksL.contains c
def inAddr (c : UInt8) : Bool := isDig c || decide (65 ≤ c.toNat ∧ c.toNat ≤ 70) || decide (97 ≤ c.toNat ∧ c.toNat ≤ 102) || decide (c.toNat = 58) || decide (c.toNat = 46)

/-- where the brackets of an address end; nought without brackets -/
def cIn (l : Bs) : Nat := (Lib.indexByte l 93 + 1).toNat
def hostN (l : Bs) : Bs := l.take (cIn l + (cutL 58 (l.drop (cIn l))).1.length)
def hostP (l : Bs) : Bs := (cutL 58 (l.drop (cIn l))).2.1
def brOk (n : Bs) : Bool := Lib.hasSuffix (n.drop 1) [93] && someL inAddr ((n.drop 1).take ((n.drop 1).length - 1))
def nameOk (n : Bs) : Bool := if Lib.hasPrefix n [91] then brOk n else someL inName n
def portOk (q : Bs) : Bool := decide (q.length ≤ 5) && q.all isDig
def hostL (l : Bs) : Bool := portOk (hostP l) && nameOk (hostN l)

theorem ix_none (c : UInt8) : ∀ l : Bs, (∀ x ∈ l, x ≠ c) → Lib.indexByte l c = -1
  | [], _ => rfl
  | a :: t, h => by
    have h1 : (a == c) = false := beq_eq_false_iff_ne.2 (h a (by simp))
    unfold Lib.indexByte
    rw [h1, ix_none c t fun x hx => h x (by simp [hx])]
    simp
theorem ix_at (c : UInt8) (r : Bs) : ∀ a : Bs, (∀ x ∈ a, x ≠ c) → Lib.indexByte (a ++ c :: r) c = a.length
  | [], _ => by unfold Lib.indexByte; simp
  | b :: t, h => by
    have h1 : (b == c) = false := beq_eq_false_iff_ne.2 (h b (by simp))
    rw [List.cons_append]
    unfold Lib.indexByte
    rw [h1, ix_at c r t fun x hx => h x (by simp [hx])]
    have h2 : ((t.length : Int) == -1) = false := by rw [beq_eq_false_iff_ne]; omega
    rw [h2]; simp
theorem ix_le (c : UInt8) : ∀ l : Bs, Lib.indexByte l c + 1 ≤ l.length
  | [] => by simp [Lib.indexByte]
  | a :: t => by
    have := ix_le c t
    unfold Lib.indexByte
    split
    · simp only [List.length_cons]; omega
    · split <;> simp <;> omega
theorem cIn_le (l : Bs) : cIn l ≤ l.length := by
  have := ix_le 93 l
  unfold cIn; omega

/-- a name of a host: its bytes, or an address in brackets -/
theorem name_form (n : Bs) (h : nameOk n = true) : (n.head? ≠ some 91 ∧ someL inName n = true) ∨ ∃ a, n = 91 :: (a ++ [93]) ∧ someL inAddr a = true := by
  unfold nameOk at h
  match n, h with
  | [], h => exact absurd h (by decide)
  | c :: t, h =>
    by_cases e : c = 91
    · subst e
      right
      have hp : Lib.hasPrefix (91 :: t) [91] = true := by unfold Lib.hasPrefix; simp
      rw [if_pos hp] at h
      unfold brOk at h
      rw [Bool.and_eq_true] at h
      obtain ⟨hs, ha⟩ := h
      rw [List.drop_one, List.tail_cons] at hs ha
      unfold Lib.hasSuffix at hs
      obtain ⟨a, rfl⟩ := List.isSuffixOf_iff_suffix.1 hs
      refine ⟨a, rfl, ?_⟩
      rw [List.length_append, List.length_singleton, Nat.add_sub_cancel, List.take_left] at ha
      exact ha
    · left
      have hp : Lib.hasPrefix (c :: t) [91] = false := by unfold Lib.hasPrefix; simp [List.isPrefixOf]; exact fun h => e h.symm
      rw [if_neg (by rw [hp]; simp)] at h
      exact ⟨by simpa using e, h⟩
theorem name_plain (n : Bs) (h : n.head? ≠ some 91) : nameOk n = someL inName n := by
  unfold nameOk
  rw [if_neg]
  match n, h with
  | [], _ => decide
  | c :: t, h =>
    have e : c ≠ 91 := by simpa using h
    unfold Lib.hasPrefix; simp [List.isPrefixOf]; exact fun h => e h.symm
theorem name_br (a : Bs) : nameOk (91 :: (a ++ [93])) = someL inAddr a := by
  unfold nameOk
  rw [if_pos (by unfold Lib.hasPrefix; simp)]
  unfold brOk
  rw [List.drop_one, List.tail_cons, List.length_append, List.length_singleton, Nat.add_sub_cancel, List.take_left]
  have : Lib.hasSuffix (a ++ [93]) [93] = true := by
    unfold Lib.hasSuffix; exact List.isSuffixOf_iff_suffix.2 ⟨a, rfl⟩
  rw [this, Bool.true_and]

theorem someL_all {p : UInt8 → Bool} {l : Bs} (h : someL p l = true) : l.all p = true := by
  unfold someL at h; rw [Bool.and_eq_true] at h; exact h.2
theorem port_dig {q : Bs} (h : portOk q = true) : q.all isDig = true := by
  unfold portOk at h; rw [Bool.and_eq_true] at h; exact h.2

/-- a host: a name, and perhaps a colon and a port -/
def HostG (l : Bs) (n q : Bs) (f : Bool) : Prop := l = n ++ (if f then 58 :: q else []) ∧ (f = false → q = []) ∧ nameOk n = true ∧ portOk q = true

theorem tail_no93 (q : Bs) (f : Bool) (hq : portOk q = true) : ∀ x ∈ (if f then 58 :: q else [] : Bs), x ≠ (93 : UInt8) := by
  intro x hx
  cases f
  · simp at hx
  · rcases List.mem_cons.1 hx with rfl | hx
    · decide
    · exact all_ne isDig q (port_dig hq) 93 (by decide) x hx

theorem host_cut {l n q : Bs} {f : Bool} (h : HostG l n q f) : hostN l = n ∧ hostP l = q := by
  obtain ⟨rfl, hf, hn, hq⟩ := h
  have ht := tail_no93 q f hq
  rcases name_form n hn with ⟨-, hi⟩ | ⟨a, rfl, ha⟩
  · have hi2 := someL_all hi
    have h0 : cIn (n ++ (if f then 58 :: q else [])) = 0 := by
      unfold cIn
      rw [ix_none]
      · rfl
      · intro x hx
        rcases List.mem_append.1 hx with hx | hx
        · exact all_ne inName n hi2 93 (by decide) x hx
        · exact ht x hx
    unfold hostN hostP
    rw [h0, List.drop_zero, Nat.zero_add]
    have hc : cutL 58 (n ++ (if f then 58 :: q else [])) = (n, q, f) := by
      cases f
      · simp only [Bool.false_eq_true, if_false, List.append_nil]
        rw [cut_none 58 n (all_ne inName n hi2 58 (by decide)), hf rfl]
      · simp only [if_true]
        exact cutL_at 58 n q (all_ne inName n hi2 58 (by decide))
    rw [hc]
    simp
  · have ha2 := someL_all ha
    have h0 : cIn (91 :: (a ++ [93]) ++ (if f then 58 :: q else [])) = a.length + 2 := by
      have e : 91 :: (a ++ [93]) ++ (if f then 58 :: q else [] : Bs) = (91 :: a) ++ 93 :: (if f then 58 :: q else []) := by simp
      unfold cIn
      rw [e, ix_at]
      · simp only [List.length_cons]; omega
      · intro x hx
        rcases List.mem_cons.1 hx with rfl | hx
        · decide
        · exact all_ne inAddr a ha2 93 (by decide) x hx
    have hlen : (91 :: (a ++ [93])).length = a.length + 2 := by simp
    have hd : (91 :: (a ++ [93]) ++ (if f then 58 :: q else [] : Bs)).drop (a.length + 2) = (if f then 58 :: q else []) := by
      rw [← hlen, List.drop_left]
    unfold hostN hostP
    rw [h0, hd]
    have hc : cutL 58 (if f then 58 :: q else []) = ([], q, f) := by
      cases f
      · rw [hf rfl]; rfl
      · exact cutL_at 58 [] q (by simp)
    rw [hc]
    refine ⟨?_, rfl⟩
    simp only [List.length_nil, Nat.add_zero]
    rw [← hlen, List.take_left]

theorem host_of {l n q : Bs} {f : Bool} (h : HostG l n q f) : hostL l = true := by
  obtain ⟨h1, h2⟩ := host_cut h
  obtain ⟨-, -, hn, hq⟩ := h
  unfold hostL
  rw [h1, h2, hn, hq]; rfl
theorem host_is (l : Bs) (h : hostL l = true) : ∃ f, HostG l (hostN l) (hostP l) f := by
  have hh := h
  unfold hostL at hh
  rw [Bool.and_eq_true] at hh
  refine ⟨(cutL 58 (l.drop (cIn l))).2.2, ?_, ?_, hh.2, hh.1⟩
  · have hs := cut_split 58 (l.drop (cIn l))
    unfold hostN hostP
    have e : l.take (cIn l + (cutL 58 (l.drop (cIn l))).1.length) = l.take (cIn l) ++ (cutL 58 (l.drop (cIn l))).1 := by
      rw [List.take_add]
      congr 1
      generalize hA : (cutL 58 (l.drop (cIn l))) = A at *
      rw [hs]
      exact List.take_left' rfl
    rw [e, List.append_assoc, ← hs, List.take_append_drop]
  · intro hf
    exact cut_nil_of 58 _ hf

theorem host_iff (l : Bs) : hostL l = true ↔ ∃ n q f, HostG l n q f :=
  ⟨fun h => by obtain ⟨f, hf⟩ := host_is l h; exact ⟨_, _, _, hf⟩, fun ⟨_, _, _, h⟩ => host_of h⟩

theorem split_first {a b r s : Bs} {c : UInt8} (ha : ∀ x ∈ a, x ≠ c) (hb : ∀ x ∈ b, x ≠ c) (h : a ++ c :: r = b ++ c :: s) : a = b ∧ r = s := by
  have h1 := cutL_at c a r ha
  rw [h, cutL_at c b s hb] at h1
  injection h1 with e1 e2
  injection e2 with e3 e4
  exact ⟨e1.symm, e3.symm⟩

/-- with a port -/
theorem host_port (m q : Bs) (h1 : (∀ x ∈ m, x ≠ (58 : UInt8)) ∨ m.head? = some 91) (h2 : m.head? = some 91 → m.getLast? = some 93) :
    hostL (m ++ 58 :: q) = (hostL m && portOk q) := by
  rw [Bool.eq_iff_iff, Bool.and_eq_true, host_iff, host_iff]
  constructor
  · rintro ⟨n, p, f, he, hf, hn, hp⟩
    have hm : m = n ∧ q = p ∧ f = true := by
      cases f
      · exfalso
        rw [if_neg (by simp), List.append_nil] at he
        rcases name_form n hn with ⟨h91, hi⟩ | ⟨a, rfl, ha⟩
        · exact all_ne inName n (someL_all hi) 58 (by decide) 58 (by rw [← he]; simp) rfl
        · match m, he with
          | [], he => injection he with e _; exact absurd e (by decide)
          | c :: t, he =>
            have hc : c = 91 := by injection he
            subst hc
            have hl := h2 rfl
            obtain ⟨t2, ht2⟩ := List.getLast?_eq_some_iff.1 hl
            have hmem : (93 : UInt8) ∈ a := by
              have ht : t ++ 58 :: q = a ++ [93] := by injection he
              match t2, ht2 with
              | [], ht2 => injection ht2 with e _; exact absurd e (by decide)
              | d :: t3, ht2 =>
                have ht3 : t = t3 ++ [93] := by injection ht2
                rw [ht3, List.append_assoc] at ht
                rcases List.eq_nil_or_concat q with hq | ⟨q', z, hq⟩
                · subst hq
                  have := congrArg List.getLast? ht
                  simp at this
                · rw [List.concat_eq_append] at hq
                  subst hq
                  have e2 : t3 ++ ([93] ++ 58 :: (q' ++ [z])) = (t3 ++ 93 :: 58 :: q') ++ [z] := by simp
                  rw [e2] at ht
                  have := List.append_inj' ht rfl
                  rw [← this.1]; simp
            exact all_ne inAddr a (someL_all ha) 93 (by decide) 93 hmem rfl
      · rw [if_pos rfl] at he
        rcases name_form n hn with ⟨h91, hi⟩ | ⟨a, rfl, ha⟩
        · have hn58 := all_ne inName n (someL_all hi) 58 (by decide)
          rcases h1 with h1 | h1
          · obtain ⟨e1, e2⟩ := split_first h1 hn58 he
            exact ⟨e1, e2, rfl⟩
          · exfalso
            match m, h1 with
            | c :: t, h1 =>
              have hc : c = 91 := by simpa using h1
              subst hc
              match n, hi with
              | d :: n', hi =>
                have hd : (91 : UInt8) = d := by injection he
                subst hd
                exact h91 rfl
        · match m, he with
          | [], he => injection he with e _; exact absurd e (by decide)
          | c :: t, he =>
            have hc : c = 91 := by injection he
            subst hc
            obtain ⟨t2, ht2⟩ := List.getLast?_eq_some_iff.1 (h2 rfl)
            have ht : t ++ 58 :: q = a ++ 93 :: 58 :: p := by
              have : t ++ 58 :: q = (a ++ [93]) ++ 58 :: p := by injection he
              rw [this]; simp
            match t2, ht2 with
            | [], ht2 => injection ht2 with e _; exact absurd e (by decide)
            | d :: t3, ht2 =>
              have ht3 : t = t3 ++ [93] := by injection ht2
              have ha93 := all_ne inAddr a (someL_all ha) 93 (by decide)
              by_cases hin : ∀ x ∈ t3, x ≠ (93 : UInt8)
              · rw [ht3, List.append_assoc] at ht
                obtain ⟨e1, e2⟩ := split_first hin ha93 ht
                injection e2 with _ e3
                subst e1 e3 ht3
                exact ⟨by simp, rfl, rfl⟩
              · exfalso
                have hin : (93 : UInt8) ∈ t3 := by
                  apply Classical.byContradiction
                  intro hno
                  exact hin fun x hx e => hno (e ▸ hx)
                obtain ⟨u, v, huv, hu⟩ : ∃ u v, t3 = u ++ 93 :: v ∧ ∀ x ∈ u, x ≠ (93 : UInt8) := by
                  have hs := cut_split 93 t3
                  have hf : (cutL 93 t3).2.2 = true := by unfold cutL; rw [if_pos (by simpa using hin)]
                  rw [if_pos hf] at hs
                  exact ⟨_, _, hs, cut_first 93 t3⟩
                rw [ht3, huv] at ht
                have e4 : u ++ 93 :: v ++ [93] ++ 58 :: q = u ++ 93 :: (v ++ [93] ++ 58 :: q) := by simp
                rw [e4] at ht
                obtain ⟨-, e2⟩ := split_first hu ha93 ht
                have hp93 : ∀ x ∈ (58 :: p : Bs), x ≠ (93 : UInt8) := by
                  have := tail_no93 p true hp
                  rw [if_pos rfl] at this
                  exact this
                exact hp93 93 (by rw [← e2]; simp) rfl
    obtain ⟨rfl, rfl, rfl⟩ := hm
    exact ⟨⟨m, [], false, by simp, fun _ => rfl, hn, rfl⟩, hp⟩
  · rintro ⟨⟨n, p, f, he, hf, hn, hp⟩, hq⟩
    cases f
    · rw [if_neg (by simp), List.append_nil] at he
      subst he
      exact ⟨m, q, true, by simp, by simp, hn, hq⟩
    · exfalso
      rw [if_pos rfl] at he
      subst he
      rcases h1 with h1 | h1
      · exact h1 58 (by simp) rfl
      · have hl := h2 h1
        have hp' : (n ++ 58 :: p).getLast? = (58 :: p).getLast? := by
          rw [List.getLast?_append]
          simp [List.getLast?_cons]
        rw [hp'] at hl
        have hm : (93 : UInt8) ∈ (58 :: p : Bs) := List.mem_of_getLast? hl
        have := tail_no93 p true hp
        rw [if_pos rfl] at this
        exact this 93 hm rfl

theorem lowB_cases (c : UInt8) : (lowB c = c ∧ ¬ (65 ≤ c.toNat ∧ c.toNat ≤ 90)) ∨ (65 ≤ c.toNat ∧ c.toNat ≤ 90 ∧ (lowB c).toNat = c.toNat + 32) := by
  by_cases h : 65 ≤ c.toNat ∧ c.toNat ≤ 90
  · right
    have := lowB_up c h.1 h.2
    exact ⟨h.1, h.2, by omega⟩
  · exact .inl ⟨lowB_same c h, h⟩
theorem low_all (p : UInt8 → Bool) (hp : ∀ c, p (lowB c) = p c) (l : Bs) : (lowL l).all p = l.all p := by
  unfold lowL; rw [List.all_map]; congr 1; funext c; exact hp c
theorem u8_all (p : UInt8 → Bool) (h : ((List.range 256).all fun n => p (UInt8.ofNat n)) = true) (c : UInt8) : p c = true := by
  have := List.all_eq_true.1 h c.toNat (by simp; exact c.toNat_lt)
  rwa [UInt8.ofNat_toNat] at this
theorem inName_low (c : UInt8) : inName (lowB c) = inName c := by
  have := u8_all (fun c => inName (lowB c) == inName c) (by decide +kernel) c
  simpa using this
theorem inAddr_low (c : UInt8) : inAddr (lowB c) = inAddr c := by
  have := u8_all (fun c => inAddr (lowB c) == inAddr c) (by decide +kernel) c
  simpa using this
theorem isDig_low (c : UInt8) : isDig (lowB c) = isDig c := by
  have := u8_all (fun c => isDig (lowB c) == isDig c) (by decide +kernel) c
  simpa using this
theorem low_is (d : UInt8) (hd : d = 58 ∨ d = 91 ∨ d = 93) (c : UInt8) : lowB c = d ↔ c = d := by
  have h : (decide (lowB c = d) == decide (c = d)) = true := by
    rcases hd with rfl | rfl | rfl
    · exact u8_all (fun c => decide (lowB c = 58) == decide (c = 58)) (by decide +kernel) c
    · exact u8_all (fun c => decide (lowB c = 91) == decide (c = 91)) (by decide +kernel) c
    · exact u8_all (fun c => decide (lowB c = 93) == decide (c = 93)) (by decide +kernel) c
  simpa using h
theorem some_low (p : UInt8 → Bool) (hp : ∀ c, p (lowB c) = p c) (l : Bs) : someL p (lowL l) = someL p l := by
  unfold someL
  rw [low_all p hp]
  congr 1
  cases l <;> rfl
theorem name_low (n : Bs) (h : nameOk n = true) : nameOk (lowL n) = true := by
  rcases name_form n h with ⟨h91, hi⟩ | ⟨a, rfl, ha⟩
  · rw [name_plain]
    · rw [some_low inName inName_low]; exact hi
    · intro e
      match n, e with
      | c :: t, e =>
        have : lowB c = 91 := by simpa [lowL] using e
        exact h91 (by simpa using (low_is 91 (by decide) c).1 this)
  · have e : lowL (91 :: (a ++ [93])) = 91 :: (lowL a ++ [93]) := by simp [lowL]; decide
    rw [e, name_br, some_low inAddr inAddr_low]; exact ha
theorem name_unlow (n : Bs) (h : nameOk (lowL n) = true) : nameOk n = true := by
  by_cases h91 : n.head? = some 91
  · match n, h91 with
    | c :: t, h91 =>
      have hc : c = 91 := by simpa using h91
      subst hc
      rcases name_form _ h with ⟨h', -⟩ | ⟨a, he, ha⟩
      · exact absurd rfl h'
      · have ht : lowL t = a ++ [93] := by
          have : lowL (91 :: t) = 91 :: lowL t := rfl
          rw [this] at he
          injection he
        obtain ⟨t1, t2, rfl, e1, e2⟩ := List.map_eq_append_iff.1 ht
        have ht2 : t2 = [93] := by
          have hl : t2.length = 1 := by have := congrArg List.length e2; simpa using this
          obtain ⟨x, rfl⟩ := List.length_eq_one_iff.1 hl
          have : lowB x = 93 := by simpa using e2
          rw [(low_is 93 (by decide) x).1 this]
        subst ht2
        rw [name_br, ← some_low inAddr inAddr_low]
        have e1' : lowL t1 = a := e1
        rw [e1']; exact ha
  · rw [name_plain n h91, ← some_low inName inName_low]
    rw [name_plain] at h
    · exact h
    · intro e
      match n, e with
      | c :: t, e =>
        have : lowB c = 91 := by simpa [lowL] using e
        exact h91 (by simpa using (low_is 91 (by decide) c).1 this)
theorem port_low (q : Bs) : portOk (lowL q) = portOk q := by
  unfold portOk; rw [low_all isDig isDig_low, length_lowL]
theorem host_low (l : Bs) : hostL (lowL l) = hostL l := by
  rw [Bool.eq_iff_iff, host_iff, host_iff]
  constructor
  · rintro ⟨n, q, f, he, hf, hn, hq⟩
    obtain ⟨n', r, rfl, e1, e2⟩ := List.map_eq_append_iff.1 he
    have e1' : lowL n' = n := e1
    subst e1'
    cases f
    · rw [if_neg (by simp)] at e2
      have : r = [] := by simpa using e2
      subst this
      exact ⟨n', [], false, by simp, fun _ => rfl, name_unlow _ hn, rfl⟩
    · rw [if_pos rfl] at e2
      match r, e2 with
      | c :: q', e2 =>
        rw [List.map_cons] at e2
        injection e2 with ec eq
        have eq' : lowL q' = q := eq
        subst eq'
        rw [(low_is 58 (by decide) c).1 ec]
        exact ⟨n', q', true, by simp, by simp, name_unlow _ hn, by rw [← port_low]; exact hq⟩
  · rintro ⟨n, q, f, rfl, hf, hn, hq⟩
    refine ⟨lowL n, lowL q, f, ?_, fun h => by rw [hf h]; rfl, name_low n hn, by rw [port_low]; exact hq⟩
    cases f
    · simp
    · simp [lowL]; decide

/-- which bytes a host has -/
theorem name_bytes (n : Bs) (h : nameOk n = true) (p : UInt8 → Bool) (hp : ∀ c, (inName c || inAddr c || decide (c = 91) || decide (c = 93)) = true → p c = true) : n.all p = true := by
  rw [List.all_eq_true]
  intro x hx
  apply hp
  rcases name_form n h with ⟨-, hi⟩ | ⟨a, rfl, ha⟩
  · have := List.all_eq_true.1 (someL_all hi) x hx
    rw [this]; simp
  · have := List.all_eq_true.1 (someL_all ha)
    simp at hx
    rcases hx with rfl | hx | rfl
    · decide
    · rw [this x hx]; simp
    · decide
theorem host_bytes (l : Bs) (h : hostL l = true) (p : UInt8 → Bool) (hp : ∀ c, (inName c || inAddr c || decide (c = 91) || decide (c = 93)) = true → p c = true) : l.all p = true := by
  obtain ⟨n, q, f, rfl, hf, hn, hq⟩ := (host_iff l).1 h
  rw [List.all_append, name_bytes n hn p hp, Bool.true_and]
  cases f
  · rfl
  · rw [if_pos rfl, List.all_cons, hp 58 (by decide), Bool.true_and, List.all_eq_true]
    intro x hx
    apply hp
    have := List.all_eq_true.1 (port_dig hq) x hx
    unfold inName
    rw [this]; simp

theorem hb_of (p : UInt8 → Bool) (h : ((List.range 256).all fun n => !(inName (UInt8.ofNat n) || inAddr (UInt8.ofNat n) || decide (UInt8.ofNat n = 91) || decide (UInt8.ofNat n = 93)) || p (UInt8.ofNat n)) = true) (c : UInt8) (hc : (inName c || inAddr c || decide (c = 91) || decide (c = 93)) = true) : p c = true := by
  have := u8_all (fun c => !(inName c || inAddr c || decide (c = 91) || decide (c = 93)) || p c) h c
  simp only [hc] at this
  simpa using this
/-- targets -/
def connectL : Bs := [67, 79, 78, 78, 69, 67, 84]
def optionsL : Bs := [79, 80, 84, 73, 79, 78, 83]
def schemeL : Bs := [104, 116, 116, 112, 58, 47, 47]
def noEnd (c : UInt8) : Bool := !(c == 47 || c == 63)
def tHost (s : Bs) : Bs := (s.drop 7).takeWhile noEnd
def tRest (s : Bs) : Bs := (s.drop 7).dropWhile noEnd
def tPath (s : Bs) : Bs := if Lib.hasPrefix (tRest s) [47] then tRest s else 47 :: tRest s
def absOk (s : Bs) : Bool := decide (lowL (s.take 7) = schemeL) && hostL (tHost s)
def tgtOk (s : Bs) : Bool := someL vis s && !s.contains 35

/-- the form of a target, its host and its path; nought, and none, if it is refused -/
def tgt (m s : Bs) : Nat × Bs × Bs :=
  if tgtOk s = false then (0, [], [])
  else if m = connectL then (if hostP s ≠ [] ∧ hostL s = true then (3, lowL s, []) else (0, [], []))
  else if m = optionsL ∧ s = [42] then (4, [], [])
  else if s.head? = some 47 then (1, [], s)
  else if absOk s = true then (2, lowL (tHost s), tPath s) else (0, [], [])
def tgtSt (m s : Bs) : Nat := if (tgt m s).1 = 0 then 400 else 0

theorem tgt_shape (m s : Bs) : ((tgt m s).1 = 0 ∧ (tgt m s).2 = ([], [])) ∨ ((tgt m s).1 = 1 ∧ (tgt m s).2 = ([], s) ∧ s.head? = some 47 ∧ tgtOk s = true ∧ m ≠ connectL) ∨ ((tgt m s).1 = 2 ∧ (tgt m s).2.2 ≠ []) ∨ ((tgt m s).1 = 3 ∧ (tgt m s).2.2 = []) ∨ ((tgt m s).1 = 4 ∧ (tgt m s).2.2 = []) := by
  unfold tgt
  by_cases h1 : tgtOk s = false
  · rw [if_pos h1]; simp
  · rw [if_neg h1]
    by_cases h2 : m = connectL
    · rw [if_pos h2]
      split <;> simp
    · rw [if_neg h2]
      by_cases h3 : m = optionsL ∧ s = [42]
      · rw [if_pos h3]; simp
      · rw [if_neg h3]
        by_cases h4 : s.head? = some 47
        · rw [if_pos h4]
          right; left
          exact ⟨rfl, rfl, h4, by simpa using h1, h2⟩
        · rw [if_neg h4]
          by_cases h5 : absOk s = true
          · rw [if_pos h5]
            right; right; left
            refine ⟨rfl, ?_⟩
            show tPath s ≠ []
            unfold tPath
            split
            · next h =>
              intro e
              rw [e] at h
              exact absurd h (by decide)
            · simp
          · rw [if_neg h5]; simp

theorem takeWhile_app (p : UInt8 → Bool) (a b : Bs) (h : a.all p = true) : (a ++ b).takeWhile p = a ++ b.takeWhile p ∧ (a ++ b).dropWhile p = b.dropWhile p := by
  have h' : ∀ x ∈ a, p x = true := fun x hx => List.all_eq_true.1 h x hx
  exact ⟨List.takeWhile_append_of_pos h', List.dropWhile_append_of_pos h'⟩

/-- a path after a host -/
theorem tgt_abs (m pre h p : Bs) (hm : m ≠ connectL) (hpre : pre.length = 7) (hlow : lowL pre = schemeL) (hvis : pre.all vis = true) (hsh : pre.contains 35 = false) (hh : hostL h = true) (hp0 : p.head? = some 47) (hp : tgtOk p = true) :
    tgt m (pre ++ h ++ p) = (2, lowL h, p) := by
  have hv : tgtOk (pre ++ h ++ p) = true := by
    unfold tgtOk someL at hp ⊢
    simp only [Bool.and_eq_true, Bool.not_eq_true'] at hp
    have h1 := host_bytes h hh vis (hb_of vis (by decide +kernel))
    have h2 : h.contains 35 = false := by
      have := host_bytes h hh (fun c => c != 35) (hb_of _ (by decide +kernel))
      rw [List.contains_eq_any_beq]
      rw [List.any_eq_false]
      intro x hx
      have := List.all_eq_true.1 this x hx
      simp at this ⊢
      exact fun e => this e.symm
    have e : (pre ++ h ++ p).contains 35 = false := by
      rw [List.contains_eq_any_beq] at hsh h2 ⊢
      have hp2 := hp.2
      rw [List.contains_eq_any_beq] at hp2
      rw [List.any_append, List.any_append, hsh, h2, hp2]; rfl
    rw [e, List.all_append, List.all_append, hvis, h1, hp.1.2]
    match pre, hpre with
    | c :: t, _ => rfl
  have hd : (pre ++ h ++ p).drop 7 = h ++ p := by
    rw [List.append_assoc, ← hpre, List.drop_left]
  have ht : (pre ++ h ++ p).take 7 = pre := by
    rw [List.append_assoc, ← hpre, List.take_left]
  obtain ⟨p', rfl⟩ : ∃ p', p = 47 :: p' := by
    match p, hp0 with
    | c :: t, h0 => exact ⟨t, by rw [show c = 47 by simpa using h0]⟩
  have hno := host_bytes h hh noEnd (hb_of noEnd (by decide +kernel))
  obtain ⟨w1, w2⟩ := takeWhile_app noEnd h (47 :: p') hno
  have w3 : (47 :: p' : Bs).takeWhile noEnd = [] := by rw [List.takeWhile_cons]; rfl
  have w4 : (47 :: p' : Bs).dropWhile noEnd = 47 :: p' := by rw [List.dropWhile_cons]; rfl
  have e1 : tHost (pre ++ h ++ 47 :: p') = h := by unfold tHost; rw [hd, w1, w3, List.append_nil]
  have e2 : tRest (pre ++ h ++ 47 :: p') = 47 :: p' := by unfold tRest; rw [hd, w2, w4]
  have e3 : tPath (pre ++ h ++ 47 :: p') = 47 :: p' := by
    unfold tPath
    rw [e2, if_pos (by unfold Lib.hasPrefix; simp)]
  have hhead : lowL (pre ++ h ++ 47 :: p') = schemeL ++ lowL h ++ lowL (47 :: p') := by
    rw [← hlow]; simp [lowL]
  have n1 : ¬ (m = optionsL ∧ pre ++ h ++ 47 :: p' = [42]) := by
    rintro ⟨-, e⟩
    have := congrArg List.length e
    simp only [List.length_append, List.length_cons, List.length_nil] at this
    omega
  have n2 : (pre ++ h ++ 47 :: p').head? ≠ some 47 := by
    intro e
    match pre, hpre, hlow with
    | c :: t, _, hl =>
      have hc : c = 47 := by simpa using e
      subst hc
      have h1 : (lowL (47 :: t)).head? = some 47 := by simp [lowL]; decide
      rw [hl] at h1
      exact absurd h1 (by decide)
  unfold tgt
  rw [if_neg (by rw [hv]; simp), if_neg hm, if_neg n1, if_neg n2, if_pos (by unfold absOk; rw [ht, hlow, e1, hh]; rfl), e1, e3]
end Tk
end Go.Proofs.YthooghgiokgdhaaGreatDoor
namespace Go.Proofs.YthooghgiokgdhaaGreatDoor
open Go.RowKit
namespace Tk

theorem retB2 {a b : Bool} (h : a = b) : Ending.returned (.bool a) = .returned (.bool b) := by rw [h]

set_option maxHeartbeats 400000 in
theorem rDigit_any (c : UInt8) (w : World) :
    Calls Tryz.prog 136 #[.int .u8 (c.toNat : Int)] w fun e w' => e = .returned (.bool (isDig c)) ∧ w = w' := by
  have hlt := c.toNat_lt
  have HD := Lib.hid (show isDig c = (decide (48 ≤ c.toNat) && decide (c.toNat ≤ 57)) from rfl)
  generalize c.toNat = n at *
  by_cases h0 : 48 ≤ n <;> by_cases h1 : n ≤ 57
  all_goals
    first
    | omega
    | (go_enter Tryz.func136, Tryz.ntmps136
       go_wp2_with fail
       go_ret
       exact ⟨retB2 (by rw [HD.out, Bool.eq_iff_iff]; simp; omega), rfl⟩)

set_option maxHeartbeats 1000000 in
theorem rLetter_any (c : UInt8) (w : World) :
    Calls Tryz.prog 135 #[.int .u8 (c.toNat : Int)] w fun e w' => e = .returned (.bool (isLet c)) ∧ w = w' := by
  have hlt := c.toNat_lt
  have HD := Lib.hid (show isLet c = (decide (65 ≤ c.toNat ∧ c.toNat ≤ 90) || decide (97 ≤ c.toNat ∧ c.toNat ≤ 122)) from rfl)
  generalize c.toNat = n at *
  by_cases h0 : 65 ≤ n <;> by_cases h1 : n ≤ 90 <;> by_cases h2 : 97 ≤ n <;> by_cases h3 : n ≤ 122
  all_goals
    first
    | omega
    | (go_enter Tryz.func135, Tryz.ntmps135
       go_wp2_with fail
       go_ret
       exact ⟨retB2 (by rw [HD.out, Bool.eq_iff_iff]; simp; omega), rfl⟩)

set_option maxHeartbeats 1000000 in
theorem rIn_any (c : UInt8) (s : ByteArray) (w : World) (hs : s.size ≤ 1099511627776) :
    Calls Tryz.prog 137 #[.int .u8 (c.toNat : Int), .string s] w fun e w' => e = .returned (.bool ((bs s).contains c)) ∧ w = w' := by
  go_enter Tryz.func137, Tryz.ntmps137
  go_wp2_with fail
  go_loop [5] (fun v => ∃ i : Nat, i ≤ s.size ∧ v = .int .i64 i ∧ Hid ((bs s).contains c = ((bs s).drop i).contains c)) (fun v => s.size - (RowKit.intOf v).toNat)
  case atStart => exact ⟨0, Nat.zero_le _, rfl, rfl⟩
  case round =>
    obtain ⟨i, hi, rfl, hd⟩ := hrel
    by_cases hlt : i < s.size
    · have D := Lib.hid (bs_drop s i hlt)
      by_cases hc : s[i] = c
      · have e1 : ((s[i].toNat : Int) == (c.toNat : Int)) = true := by rw [hc]; simp
        have fin : (bs s).contains c = true := by rw [hd.out, D.out, List.contains_cons, hc]; simp
        have HF := Lib.hid fin
        clear fin hc
        go_wp2_with fail
        go_ret
        exact ⟨retB2 (by have h := HF.out; simp at h; simp [h]), rfl⟩
      · have e1 : ((s[i].toNat : Int) == (c.toNat : Int)) = false := by
          rw [beq_eq_false_iff_ne]
          intro e
          exact hc (UInt8.toNat_inj.1 (by omega))
        have nx : (bs s).contains c = ((bs s).drop (i + 1)).contains c := by
          rw [hd.out, D.out, List.contains_cons]
          have : (c == s[i]) = false := beq_eq_false_iff_ne.2 (fun e => hc e.symm)
          rw [this, Bool.false_or]
        have HX := Lib.hid nx
        clear nx hc
        go_wp2_with fail
        exact ⟨⟨i + 1, by omega, by go_num, HX⟩, by simp [RowKit.intOf]; omega⟩
    · have fin : (bs s).contains c = false := by rw [hd.out, List.drop_eq_nil_of_le (by rw [length_bs]; omega)]; rfl
      have HF := Lib.hid fin
      clear fin
      go_wp2_with fail
      go_ret
      exact ⟨retB2 (by have h := HF.out; simp at h; simp [h]), rfl⟩

def tmarks : Bs := [33, 35, 36, 37, 38, 39, 42, 43, 45, 46, 94, 95, 96, 124, 126]
theorem kind_tchar (c : UInt8) : decide (2 ≤ kindOf c.toNat) = (isLet c || isDig c || tmarks.contains c) := by
  have := u8_all (fun c => decide (2 ≤ kindOf c.toNat) == (isLet c || isDig c || tmarks.contains c)) (by decide +kernel) c
  simpa using this

set_option maxHeartbeats 1000000 in
theorem rTchar_any (c : UInt8) (w : World) :
    Calls Tryz.prog 84 #[.int .u8 (c.toNat : Int)] w fun e w' => e = .returned (.bool (decide (2 ≤ kindOf c.toNat))) ∧ w = w' := by
  have HL := rLetter_any c w
  have HD := rDigit_any c w
  have hx := rIn_any c ⟨#[33, 35, 36, 37, 38, 39, 42, 43, 45, 46, 94, 95, 96, 124, 126]⟩ w (by decide)
  have hx2 : Calls Tryz.prog 137 #[.int .u8 (c.toNat : Int), .string ⟨#[33, 35, 36, 37, 38, 39, 42, 43, 45, 46, 94, 95, 96, 124, 126]⟩] w fun e w' => e = .returned (.bool (tmarks.contains c)) ∧ w = w' := hx
  have HX := Lib.hid hx2
  have HN := Lib.hid (kind_tchar c)
  clear hx hx2
  generalize tmarks.contains c = tm at *
  cases hl : isLet c
  · rw [hl] at HL HN
    have HL2 := Lib.hid HL
    clear HL
    cases hd : isDig c
    · rw [hd] at HD HN
      have HD2 := Lib.hid HD
      clear HD hl hd
      go_enter Tryz.func84, Tryz.ntmps84
      go_wp2_with fail
      refine HL2.out.mono ?_
      rintro e w' ⟨rfl, rfl⟩
      go_wp2_with fail
      refine HD2.out.mono ?_
      rintro e w' ⟨rfl, rfl⟩
      go_wp2_with fail
      refine HX.out.mono ?_
      rintro e w' ⟨rfl, rfl⟩
      go_wp2_with fail
      go_ret
      exact ⟨retB2 (by rw [HN.out]; rfl), rfl⟩
    · rw [hd] at HD HN
      have HD2 := Lib.hid HD
      clear HD hl hd
      go_enter Tryz.func84, Tryz.ntmps84
      go_wp2_with fail
      refine HL2.out.mono ?_
      rintro e w' ⟨rfl, rfl⟩
      go_wp2_with fail
      refine HD2.out.mono ?_
      rintro e w' ⟨rfl, rfl⟩
      go_wp2_with fail
      go_ret
      exact ⟨retB2 (by rw [HN.out]; rfl), rfl⟩
  · rw [hl] at HL HN
    have HL2 := Lib.hid HL
    clear HL hl HD
    go_enter Tryz.func84, Tryz.ntmps84
    go_wp2_with fail
    refine HL2.out.mono ?_
    rintro e w' ⟨rfl, rfl⟩
    go_wp2_with fail
    go_ret
    exact ⟨retB2 (by rw [HN.out]; rfl), rfl⟩

set_option maxHeartbeats 1000000 in
theorem rToken_any (s : ByteArray) (w : World) (hs : s.size ≤ 1099511627776) :
    Calls Tryz.prog 19 #[.string s] w fun e w' => e = .returned (.bool (tokL (bs s))) ∧ w = w' := by
  have hV : tokL (bs s) = (!(bs s).isEmpty && allL 2 (bs s)) := rfl
  have HV := Lib.hid hV
  clear hV
  go_enter Tryz.func19, Tryz.ntmps19
  go_wp2_with fail
  go_loop [3] (fun v => ∃ i : Nat, i ≤ s.size ∧ v = .int .i64 i ∧ Hid (allL 2 (bs s) = allL 2 ((bs s).drop i))) (fun v => s.size - (RowKit.intOf v).toNat)
  case atStart => exact ⟨0, Nat.zero_le _, rfl, rfl⟩
  case round =>
    obtain ⟨i, hi, rfl, hd⟩ := hrel
    by_cases hlt : i < s.size
    · have D := Lib.hid (bs_drop s i hlt)
      have HC := rTchar_any s[i] w
      cases hk : decide (2 ≤ kindOf s[i].toNat)
      · rw [hk] at HC
        have fin : tokL (bs s) = false := by rw [HV.out, hd.out, D.out, allL_cons, hk]; simp
        have HF := Lib.hid fin
        have HC2 := Lib.hid HC
        clear fin HC hk
        go_wp2_with fail
        refine HC2.out.mono ?_
        rintro e w' ⟨rfl, rfl⟩
        go_wp2_with fail
        go_ret
        exact ⟨retB2 (by rw [HF.out]), rfl⟩
      · rw [hk] at HC
        have nx : allL 2 (bs s) = allL 2 ((bs s).drop (i + 1)) := by rw [hd.out, D.out, allL_cons, hk, Bool.true_and]
        have HX := Lib.hid nx
        have HC2 := Lib.hid HC
        clear nx HC hk
        go_wp2_with fail
        refine HC2.out.mono ?_
        rintro e w' ⟨rfl, rfl⟩
        go_wp2_with fail
        exact ⟨⟨i + 1, by omega, by go_num, HX⟩, by simp [RowKit.intOf]; omega⟩
    · have ha : allL 2 (bs s) = true := by rw [hd.out, List.drop_eq_nil_of_le (by rw [length_bs]; omega)]; rfl
      have fin : tokL (bs s) = !(bs s).isEmpty := by rw [HV.out, ha]; simp
      cases he : (bs s).isEmpty
      · have he2 : s.toList.isEmpty = false := by rw [toList_bs]; exact he
        have HF := Lib.hid (show tokL (bs s) = true by rw [fin, he]; rfl)
        clear fin ha he
        go_wp2_with fail
        go_ret
        exact ⟨retB2 (by rw [HF.out] <;> first | rfl | simp), rfl⟩
      · have he2 : s.toList.isEmpty = true := by rw [toList_bs]; exact he
        have HF := Lib.hid (show tokL (bs s) = false by rw [fin, he]; rfl)
        clear fin ha he
        go_wp2_with fail
        go_ret
        exact ⟨retB2 (by rw [HF.out] <;> first | rfl | simp), rfl⟩

theorem kind_char8 (c : UInt8) : decide (1 ≤ kindOf c.toNat) = (decide (c.toNat = 9) || (decide (32 ≤ c.toNat) && decide (c.toNat ≤ 126)) || decide (128 ≤ c.toNat)) := by
  have := u8_all (fun c => decide (1 ≤ kindOf c.toNat) == (decide (c.toNat = 9) || (decide (32 ≤ c.toNat) && decide (c.toNat ≤ 126)) || decide (128 ≤ c.toNat))) (by decide +kernel) c
  simpa using this

set_option maxHeartbeats 1000000 in
theorem rChar_any (c : UInt8) (w : World) :
    Calls Tryz.prog 206 #[.int .u8 (c.toNat : Int)] w fun r w' => r = .returned (.bool (decide (1 ≤ kindOf c.toNat))) ∧ w = w' := by
  have hlt := c.toNat_lt
  have HD := Lib.hid (kind_char8 c)
  generalize decide (1 ≤ kindOf c.toNat) = kb at *
  generalize c.toNat = n at *
  by_cases h9 : n = 9 <;> by_cases h0 : 32 ≤ n <;> by_cases h1 : n ≤ 126 <;> by_cases h2 : 128 ≤ n
  all_goals
    first
    | omega
    | ((first | (have e9 : ((n : Int) == 9) = true := (by rw [beq_iff_eq]; omega)) | (have e9 : ((n : Int) == 9) = false := (by rw [beq_eq_false_iff_ne]; omega)))
       have H9 := Lib.hid h9
       clear h9
       go_enter Tryz.func206, Tryz.ntmps206
       go_wp2_with fail
       go_ret
       have h9 := H9.out
       exact ⟨retB2 (by rw [HD.out, Bool.eq_iff_iff]; simp; omega), rfl⟩)

set_option maxHeartbeats 1000000 in
theorem rChars_any (s : ByteArray) (w : World) (hs : s.size ≤ 1099511627776) :
    Calls Tryz.prog 142 #[.string s] w fun r w' => r = .returned (.bool (allL 1 (bs s))) ∧ w = w' := by
  go_enter Tryz.func142, Tryz.ntmps142
  go_wp2_with fail
  go_loop [3] (fun v => ∃ i : Nat, i ≤ s.size ∧ v = .int .i64 i ∧ Hid (allL 1 (bs s) = allL 1 ((bs s).drop i))) (fun v => s.size - (RowKit.intOf v).toNat)
  case atStart => exact ⟨0, Nat.zero_le _, rfl, rfl⟩
  case round =>
    obtain ⟨i, hi, rfl, hd⟩ := hrel
    by_cases hlt : i < s.size
    · have D := Lib.hid (bs_drop s i hlt)
      have HC := rChar_any s[i] w
      cases hk : decide (1 ≤ kindOf s[i].toNat)
      · rw [hk] at HC
        have fin : allL 1 (bs s) = false := by rw [hd.out, D.out, allL_cons, hk]; rfl
        have HF := Lib.hid fin
        have HC2 := Lib.hid HC
        clear fin HC hk
        go_wp2_with fail
        refine HC2.out.mono ?_
        rintro e w' ⟨rfl, rfl⟩
        go_wp2_with fail
        go_ret
        exact ⟨by rw [HF.out]; rfl, rfl⟩
      · rw [hk] at HC
        have nx : allL 1 (bs s) = allL 1 ((bs s).drop (i + 1)) := by rw [hd.out, D.out, allL_cons, hk, Bool.true_and]
        have HX := Lib.hid nx
        have HC2 := Lib.hid HC
        clear nx HC hk
        go_wp2_with fail
        refine HC2.out.mono ?_
        rintro e w' ⟨rfl, rfl⟩
        go_wp2_with fail
        exact ⟨⟨i + 1, by omega, by go_num, HX⟩, by simp [RowKit.intOf]; omega⟩
    · have fin : allL 1 (bs s) = true := by rw [hd.out, List.drop_eq_nil_of_le (by rw [length_bs]; omega)]; rfl
      have HF := Lib.hid fin
      clear fin
      go_wp2_with fail
      go_ret
      exact ⟨by rw [HF.out]; rfl, rfl⟩
end Tk
end Go.Proofs.YthooghgiokgdhaaGreatDoor
