/- Sta1 MsgP MsgQ MsgR MsgS, put together. -/
import Derived.Test.YtpcdaaijlgilkaaGreatDoorQD
import Derived.Test.YtpcdaaijlgilkaaGreatDoorQC
namespace Go.Proofs.YtpcdaaijlgilkaaGreatDoor
namespace Tk

def isLet (c : UInt8) : Bool := decide (65 ≤ c.toNat ∧ c.toNat ≤ 90) || decide (97 ≤ c.toNat ∧ c.toNat ≤ 122)
def marksL : Bs := [45, 46, 95, 126, 33, 36, 38, 39, 40, 41, 42, 43, 44, 59, 61, 37]
def inName (c : UInt8) : Bool := isLet c || isDig c || marksL.contains c
def inAddr (c : UInt8) : Bool := isDig c || decide (65 ≤ c.toNat ∧ c.toNat ≤ 70) || decide (97 ≤ c.toNat ∧ c.toNat ≤ 102) || decide (c.toNat = 58) || decide (c.toNat = 46)

/-- where the brackets of an address end; nought without brackets -/
def cIn (l : Bs) : Nat := (Lib.indexByte l 93 + 1).toNat
def hostN (l : Bs) : Bs := l.take (cIn l + (cutL 58 (l.drop (cIn l))).1.length)
def hostP (l : Bs) : Bs := (cutL 58 (l.drop (cIn l))).2.1
def brOk (n : Bs) : Bool := Lib.hasSuffix (n.drop 1) [93] && someL inAddr ((n.drop 1).take ((n.drop 1).length - 1))
def nameOk (n : Bs) : Bool := if Lib.hasPrefix n [91] then brOk n else someL inName n
def portOk (q : Bs) : Bool := decide (q.length ≤ 5) && q.all isDig
def hostL (l : Bs) : Bool := portOk (hostP l) && nameOk (hostN l)

theorem ix_none (c : UInt8) : ∀ l : Bs, (∀ x ∈ l, x ≠ c) → Lib.indexByte l c = -1
  | [], _ => rfl
  | a :: t, h => by
    have h1 : (a == c) = false := beq_eq_false_iff_ne.2 (h a (by simp))
    unfold Lib.indexByte
    rw [h1, ix_none c t fun x hx => h x (by simp [hx])]
    simp
theorem ix_at (c : UInt8) (r : Bs) : ∀ a : Bs, (∀ x ∈ a, x ≠ c) → Lib.indexByte (a ++ c :: r) c = a.length
  | [], _ => by unfold Lib.indexByte; simp
  | b :: t, h => by
    have h1 : (b == c) = false := beq_eq_false_iff_ne.2 (h b (by simp))
    rw [List.cons_append]
    unfold Lib.indexByte
    rw [h1, ix_at c r t fun x hx => h x (by simp [hx])]
    have h2 : ((t.length : Int) == -1) = false := by rw [beq_eq_false_iff_ne]; omega
    rw [h2]; simp
theorem ix_le (c : UInt8) : ∀ l : Bs, Lib.indexByte l c + 1 ≤ l.length
  | [] => by simp [Lib.indexByte]
  | a :: t => by
    have := ix_le c t
    unfold Lib.indexByte
    split
    · simp only [List.length_cons]; omega
    · split <;> simp <;> omega
theorem cIn_le (l : Bs) : cIn l ≤ l.length := by
  have := ix_le 93 l
  unfold cIn; omega

/-- a name of a host: its bytes, or an address in brackets -/
theorem name_form (n : Bs) (h : nameOk n = true) : (n.head? ≠ some 91 ∧ someL inName n = true) ∨ ∃ a, n = 91 :: (a ++ [93]) ∧ someL inAddr a = true := by
  unfold nameOk at h
  match n, h with
  | [], h => exact absurd h (by decide)
  | c :: t, h =>
    by_cases e : c = 91
    · subst e
      right
      have hp : Lib.hasPrefix (91 :: t) [91] = true := by unfold Lib.hasPrefix; simp
      rw [if_pos hp] at h
      unfold brOk at h
      rw [Bool.and_eq_true] at h
      obtain ⟨hs, ha⟩ := h
      rw [List.drop_one, List.tail_cons] at hs ha
      unfold Lib.hasSuffix at hs
      obtain ⟨a, rfl⟩ := List.isSuffixOf_iff_suffix.1 hs
      refine ⟨a, rfl, ?_⟩
      rw [List.length_append, List.length_singleton, Nat.add_sub_cancel, List.take_left] at ha
      exact ha
    · left
      have hp : Lib.hasPrefix (c :: t) [91] = false := by unfold Lib.hasPrefix; simp [List.isPrefixOf]; exact fun h => e h.symm
      rw [if_neg (by rw [hp]; simp)] at h
      exact ⟨by simpa using e, h⟩
theorem name_plain (n : Bs) (h : n.head? ≠ some 91) : nameOk n = someL inName n := by
  unfold nameOk
  rw [if_neg]
  match n, h with
  | [], _ => decide
  | c :: t, h =>
    have e : c ≠ 91 := by simpa using h
    unfold Lib.hasPrefix; simp [List.isPrefixOf]; exact fun h => e h.symm
theorem name_br (a : Bs) : nameOk (91 :: (a ++ [93])) = someL inAddr a := by
  unfold nameOk
  rw [if_pos (by unfold Lib.hasPrefix; simp)]
  unfold brOk
  rw [List.drop_one, List.tail_cons, List.length_append, List.length_singleton, Nat.add_sub_cancel, List.take_left]
  have : Lib.hasSuffix (a ++ [93]) [93] = true := by
    unfold Lib.hasSuffix; exact List.isSuffixOf_iff_suffix.2 ⟨a, rfl⟩
  rw [this, Bool.true_and]

theorem someL_all {p : UInt8 → Bool} {l : Bs} (h : someL p l = true) : l.all p = true := by
  unfold someL at h; rw [Bool.and_eq_true] at h; exact h.2
theorem port_dig {q : Bs} (h : portOk q = true) : q.all isDig = true := by
  unfold portOk at h; rw [Bool.and_eq_true] at h; exact h.2

/-- a host: a name, and perhaps a colon and a port -/
def HostG (l : Bs) (n q : Bs) (f : Bool) : Prop := l = n ++ (if f then 58 :: q else []) ∧ (f = false → q = []) ∧ nameOk n = true ∧ portOk q = true

theorem tail_no93 (q : Bs) (f : Bool) (hq : portOk q = true) : ∀ x ∈ (if f then 58 :: q else [] : Bs), x ≠ (93 : UInt8) := by
  intro x hx
  cases f
  · simp at hx
  · rcases List.mem_cons.1 hx with rfl | hx
    · decide
    · exact all_ne isDig q (port_dig hq) 93 (by decide) x hx

theorem host_cut {l n q : Bs} {f : Bool} (h : HostG l n q f) : hostN l = n ∧ hostP l = q := by
  obtain ⟨rfl, hf, hn, hq⟩ := h
  have ht := tail_no93 q f hq
  rcases name_form n hn with ⟨-, hi⟩ | ⟨a, rfl, ha⟩
  · have hi2 := someL_all hi
    have h0 : cIn (n ++ (if f then 58 :: q else [])) = 0 := by
      unfold cIn
      rw [ix_none]
      · rfl
      · intro x hx
        rcases List.mem_append.1 hx with hx | hx
        · exact all_ne inName n hi2 93 (by decide) x hx
        · exact ht x hx
    unfold hostN hostP
    rw [h0, List.drop_zero, Nat.zero_add]
    have hc : cutL 58 (n ++ (if f then 58 :: q else [])) = (n, q, f) := by
      cases f
      · simp only [Bool.false_eq_true, if_false, List.append_nil]
        rw [cut_none 58 n (all_ne inName n hi2 58 (by decide)), hf rfl]
      · simp only [if_true]
        exact cutL_at 58 n q (all_ne inName n hi2 58 (by decide))
    rw [hc]
    simp
  · have ha2 := someL_all ha
    have h0 : cIn (91 :: (a ++ [93]) ++ (if f then 58 :: q else [])) = a.length + 2 := by
      have e : 91 :: (a ++ [93]) ++ (if f then 58 :: q else [] : Bs) = (91 :: a) ++ 93 :: (if f then 58 :: q else []) := by simp
      unfold cIn
      rw [e, ix_at]
      · simp only [List.length_cons]; omega
      · intro x hx
        rcases List.mem_cons.1 hx with rfl | hx
        · decide
        · exact all_ne inAddr a ha2 93 (by decide) x hx
    have hlen : (91 :: (a ++ [93])).length = a.length + 2 := by simp
    have hd : (91 :: (a ++ [93]) ++ (if f then 58 :: q else [] : Bs)).drop (a.length + 2) = (if f then 58 :: q else []) := by
      rw [← hlen, List.drop_left]
    unfold hostN hostP
    rw [h0, hd]
    have hc : cutL 58 (if f then 58 :: q else []) = ([], q, f) := by
      cases f
      · rw [hf rfl]; rfl
      · exact cutL_at 58 [] q (by simp)
    rw [hc]
    refine ⟨?_, rfl⟩
    simp only [List.length_nil, Nat.add_zero]
    rw [← hlen, List.take_left]

theorem host_of {l n q : Bs} {f : Bool} (h : HostG l n q f) : hostL l = true := by
  obtain ⟨h1, h2⟩ := host_cut h
  obtain ⟨-, -, hn, hq⟩ := h
  unfold hostL
  rw [h1, h2, hn, hq]; rfl
theorem host_is (l : Bs) (h : hostL l = true) : ∃ f, HostG l (hostN l) (hostP l) f := by
  have hh := h
  unfold hostL at hh
  rw [Bool.and_eq_true] at hh
  refine ⟨(cutL 58 (l.drop (cIn l))).2.2, ?_, ?_, hh.2, hh.1⟩
  · have hs := cut_split 58 (l.drop (cIn l))
    unfold hostN hostP
    have e : l.take (cIn l + (cutL 58 (l.drop (cIn l))).1.length) = l.take (cIn l) ++ (cutL 58 (l.drop (cIn l))).1 := by
      rw [List.take_add]
      congr 1
      generalize hA : (cutL 58 (l.drop (cIn l))) = A at *
      rw [hs]
      exact List.take_left' rfl
    rw [e, List.append_assoc, ← hs, List.take_append_drop]
  · intro hf
    exact cut_nil_of 58 _ hf

theorem host_iff (l : Bs) : hostL l = true ↔ ∃ n q f, HostG l n q f :=
  ⟨fun h => by obtain ⟨f, hf⟩ := host_is l h; exact ⟨_, _, _, hf⟩, fun ⟨_, _, _, h⟩ => host_of h⟩

theorem split_first {a b r s : Bs} {c : UInt8} (ha : ∀ x ∈ a, x ≠ c) (hb : ∀ x ∈ b, x ≠ c) (h : a ++ c :: r = b ++ c :: s) : a = b ∧ r = s := by
  have h1 := cutL_at c a r ha
  rw [h, cutL_at c b s hb] at h1
  injection h1 with e1 e2
  injection e2 with e3 e4
  exact ⟨e1.symm, e3.symm⟩

/-- with a port -/
theorem host_port (m q : Bs) (h1 : (∀ x ∈ m, x ≠ (58 : UInt8)) ∨ m.head? = some 91) (h2 : m.head? = some 91 → m.getLast? = some 93) :
    hostL (m ++ 58 :: q) = (hostL m && portOk q) := by
  rw [Bool.eq_iff_iff, Bool.and_eq_true, host_iff, host_iff]
  constructor
  · rintro ⟨n, p, f, he, hf, hn, hp⟩
    have hm : m = n ∧ q = p ∧ f = true := by
      cases f
      · exfalso
        rw [if_neg (by simp), List.append_nil] at he
        rcases name_form n hn with ⟨h91, hi⟩ | ⟨a, rfl, ha⟩
        · exact all_ne inName n (someL_all hi) 58 (by decide) 58 (by rw [← he]; simp) rfl
        · match m, he with
          | [], he => injection he with e _; exact absurd e (by decide)
          | c :: t, he =>
            have hc : c = 91 := by injection he
            subst hc
            have hl := h2 rfl
            obtain ⟨t2, ht2⟩ := List.getLast?_eq_some_iff.1 hl
            have hmem : (93 : UInt8) ∈ a := by
              have ht : t ++ 58 :: q = a ++ [93] := by injection he
              match t2, ht2 with
              | [], ht2 => injection ht2 with e _; exact absurd e (by decide)
              | d :: t3, ht2 =>
                have ht3 : t = t3 ++ [93] := by injection ht2
                rw [ht3, List.append_assoc] at ht
                rcases List.eq_nil_or_concat q with hq | ⟨q', z, hq⟩
                · subst hq
                  have := congrArg List.getLast? ht
                  simp at this
                · rw [List.concat_eq_append] at hq
                  subst hq
                  have e2 : t3 ++ ([93] ++ 58 :: (q' ++ [z])) = (t3 ++ 93 :: 58 :: q') ++ [z] := by simp
                  rw [e2] at ht
                  have := List.append_inj' ht rfl
                  rw [← this.1]; simp
            exact all_ne inAddr a (someL_all ha) 93 (by decide) 93 hmem rfl
      · rw [if_pos rfl] at he
        rcases name_form n hn with ⟨h91, hi⟩ | ⟨a, rfl, ha⟩
        · have hn58 := all_ne inName n (someL_all hi) 58 (by decide)
          rcases h1 with h1 | h1
          · obtain ⟨e1, e2⟩ := split_first h1 hn58 he
            exact ⟨e1, e2, rfl⟩
          · exfalso
            match m, h1 with
            | c :: t, h1 =>
              have hc : c = 91 := by simpa using h1
              subst hc
              match n, hi with
              | d :: n', hi =>
                have hd : (91 : UInt8) = d := by injection he
                subst hd
                exact h91 rfl
        · match m, he with
          | [], he => injection he with e _; exact absurd e (by decide)
          | c :: t, he =>
            have hc : c = 91 := by injection he
            subst hc
            obtain ⟨t2, ht2⟩ := List.getLast?_eq_some_iff.1 (h2 rfl)
            have ht : t ++ 58 :: q = a ++ 93 :: 58 :: p := by
              have : t ++ 58 :: q = (a ++ [93]) ++ 58 :: p := by injection he
              rw [this]; simp
            match t2, ht2 with
            | [], ht2 => injection ht2 with e _; exact absurd e (by decide)
            | d :: t3, ht2 =>
              have ht3 : t = t3 ++ [93] := by injection ht2
              have ha93 := all_ne inAddr a (someL_all ha) 93 (by decide)
              by_cases hin : ∀ x ∈ t3, x ≠ (93 : UInt8)
              · rw [ht3, List.append_assoc] at ht
                obtain ⟨e1, e2⟩ := split_first hin ha93 ht
                injection e2 with _ e3
                subst e1 e3 ht3
                exact ⟨by simp, rfl, rfl⟩
              · exfalso
                have hin : (93 : UInt8) ∈ t3 := by
                  apply Classical.byContradiction
                  intro hno
                  exact hin fun x hx e => hno (e ▸ hx)
                obtain ⟨u, v, huv, hu⟩ : ∃ u v, t3 = u ++ 93 :: v ∧ ∀ x ∈ u, x ≠ (93 : UInt8) := by
                  have hs := cut_split 93 t3
                  have hf : (cutL 93 t3).2.2 = true := by unfold cutL; rw [if_pos (by simpa using hin)]
                  rw [if_pos hf] at hs
                  exact ⟨_, _, hs, cut_first 93 t3⟩
                rw [ht3, huv] at ht
                have e4 : u ++ 93 :: v ++ [93] ++ 58 :: q = u ++ 93 :: (v ++ [93] ++ 58 :: q) := by simp
                rw [e4] at ht
                obtain ⟨-, e2⟩ := split_first hu ha93 ht
                have hp93 : ∀ x ∈ (58 :: p : Bs), x ≠ (93 : UInt8) := by
                  have := tail_no93 p true hp
                  rw [if_pos rfl] at this
                  exact this
                exact hp93 93 (by rw [← e2]; simp) rfl
    obtain ⟨rfl, rfl, rfl⟩ := hm
    exact ⟨⟨m, [], false, by simp, fun _ => rfl, hn, rfl⟩, hp⟩
  · rintro ⟨⟨n, p, f, he, hf, hn, hp⟩, hq⟩
    cases f
    · rw [if_neg (by simp), List.append_nil] at he
      subst he
      exact ⟨m, q, true, by simp, by simp, hn, hq⟩
    · exfalso
      rw [if_pos rfl] at he
      subst he
      rcases h1 with h1 | h1
      · exact h1 58 (by simp) rfl
      · have hl := h2 h1
        have hp' : (n ++ 58 :: p).getLast? = (58 :: p).getLast? := by
          rw [List.getLast?_append]
          simp [List.getLast?_cons]
        rw [hp'] at hl
        have hm : (93 : UInt8) ∈ (58 :: p : Bs) := List.mem_of_getLast? hl
        have := tail_no93 p true hp
        rw [if_pos rfl] at this
        exact this 93 hm rfl

theorem lowB_cases (c : UInt8) : (lowB c = c ∧ ¬ (65 ≤ c.toNat ∧ c.toNat ≤ 90)) ∨ (65 ≤ c.toNat ∧ c.toNat ≤ 90 ∧ (lowB c).toNat = c.toNat + 32) := by
  by_cases h : 65 ≤ c.toNat ∧ c.toNat ≤ 90
  · right
    have := lowB_up c h.1 h.2
    exact ⟨h.1, h.2, by omega⟩
  · exact .inl ⟨lowB_same c h, h⟩
theorem low_all (p : UInt8 → Bool) (hp : ∀ c, p (lowB c) = p c) (l : Bs) : (lowL l).all p = l.all p := by
  unfold lowL; rw [List.all_map]; congr 1; funext c; exact hp c
theorem u8_all (p : UInt8 → Bool) (h : ((List.range 256).all fun n => p (UInt8.ofNat n)) = true) (c : UInt8) : p c = true := by
  have := List.all_eq_true.1 h c.toNat (by simp; exact c.toNat_lt)
  rwa [UInt8.ofNat_toNat] at this
theorem inName_low (c : UInt8) : inName (lowB c) = inName c := by
  have := u8_all (fun c => inName (lowB c) == inName c) (by decide +kernel) c
  simpa using this
theorem inAddr_low (c : UInt8) : inAddr (lowB c) = inAddr c := by
  have := u8_all (fun c => inAddr (lowB c) == inAddr c) (by decide +kernel) c
  simpa using this
theorem isDig_low (c : UInt8) : isDig (lowB c) = isDig c := by
  have := u8_all (fun c => isDig (lowB c) == isDig c) (by decide +kernel) c
  simpa using this
theorem low_is (d : UInt8) (hd : d = 58 ∨ d = 91 ∨ d = 93) (c : UInt8) : lowB c = d ↔ c = d := by
  have h : (decide (lowB c = d) == decide (c = d)) = true := by
    rcases hd with rfl | rfl | rfl
    · exact u8_all (fun c => decide (lowB c = 58) == decide (c = 58)) (by decide +kernel) c
    · exact u8_all (fun c => decide (lowB c = 91) == decide (c = 91)) (by decide +kernel) c
    · exact u8_all (fun c => decide (lowB c = 93) == decide (c = 93)) (by decide +kernel) c
  simpa using h
theorem some_low (p : UInt8 → Bool) (hp : ∀ c, p (lowB c) = p c) (l : Bs) : someL p (lowL l) = someL p l := by
  unfold someL
  rw [low_all p hp]
  congr 1
  cases l <;> rfl
theorem name_low (n : Bs) (h : nameOk n = true) : nameOk (lowL n) = true := by
  rcases name_form n h with ⟨h91, hi⟩ | ⟨a, rfl, ha⟩
  · rw [name_plain]
    · rw [some_low inName inName_low]; exact hi
    · intro e
      match n, e with
      | c :: t, e =>
        have : lowB c = 91 := by simpa [lowL] using e
        exact h91 (by simpa using (low_is 91 (by decide) c).1 this)
  · have e : lowL (91 :: (a ++ [93])) = 91 :: (lowL a ++ [93]) := by simp [lowL]; decide
    rw [e, name_br, some_low inAddr inAddr_low]; exact ha
theorem name_unlow (n : Bs) (h : nameOk (lowL n) = true) : nameOk n = true := by
  by_cases h91 : n.head? = some 91
  · match n, h91 with
    | c :: t, h91 =>
      have hc : c = 91 := by simpa using h91
      subst hc
      rcases name_form _ h with ⟨h', -⟩ | ⟨a, he, ha⟩
      · exact absurd rfl h'
      · have ht : lowL t = a ++ [93] := by
          have : lowL (91 :: t) = 91 :: lowL t := rfl
          rw [this] at he
          injection he
        obtain ⟨t1, t2, rfl, e1, e2⟩ := List.map_eq_append_iff.1 ht
        have ht2 : t2 = [93] := by
          have hl : t2.length = 1 := by have := congrArg List.length e2; simpa using this
          obtain ⟨x, rfl⟩ := List.length_eq_one_iff.1 hl
          have : lowB x = 93 := by simpa using e2
          rw [(low_is 93 (by decide) x).1 this]
        subst ht2
        rw [name_br, ← some_low inAddr inAddr_low]
        have e1' : lowL t1 = a := e1
        rw [e1']; exact ha
  · rw [name_plain n h91, ← some_low inName inName_low]
    rw [name_plain] at h
    · exact h
    · intro e
      match n, e with
      | c :: t, e =>
        have : lowB c = 91 := by simpa [lowL] using e
        exact h91 (by simpa using (low_is 91 (by decide) c).1 this)
theorem port_low (q : Bs) : portOk (lowL q) = portOk q := by
  unfold portOk; rw [low_all isDig isDig_low, length_lowL]
theorem host_low (l : Bs) : hostL (lowL l) = hostL l := by
  rw [Bool.eq_iff_iff, host_iff, host_iff]
  constructor
  · rintro ⟨n, q, f, he, hf, hn, hq⟩
    obtain ⟨n', r, rfl, e1, e2⟩ := List.map_eq_append_iff.1 he
    have e1' : lowL n' = n := e1
    subst e1'
    cases f
    · rw [if_neg (by simp)] at e2
      have : r = [] := by simpa using e2
      subst this
      exact ⟨n', [], false, by simp, fun _ => rfl, name_unlow _ hn, rfl⟩
    · rw [if_pos rfl] at e2
      match r, e2 with
      | c :: q', e2 =>
        rw [List.map_cons] at e2
        injection e2 with ec eq
        have eq' : lowL q' = q := eq
        subst eq'
        rw [(low_is 58 (by decide) c).1 ec]
        exact ⟨n', q', true, by simp, by simp, name_unlow _ hn, by rw [← port_low]; exact hq⟩
  · rintro ⟨n, q, f, rfl, hf, hn, hq⟩
    refine ⟨lowL n, lowL q, f, ?_, fun h => by rw [hf h]; rfl, name_low n hn, by rw [port_low]; exact hq⟩
    cases f
    · simp
    · simp [lowL]; decide

/-- which bytes a host has -/
theorem name_bytes (n : Bs) (h : nameOk n = true) (p : UInt8 → Bool) (hp : ∀ c, (inName c || inAddr c || decide (c = 91) || decide (c = 93)) = true → p c = true) : n.all p = true := by
  rw [List.all_eq_true]
  intro x hx
  apply hp
  rcases name_form n h with ⟨-, hi⟩ | ⟨a, rfl, ha⟩
  · have := List.all_eq_true.1 (someL_all hi) x hx
    rw [this]; simp
  · have := List.all_eq_true.1 (someL_all ha)
    simp at hx
    rcases hx with rfl | hx | rfl
    · decide
    · rw [this x hx]; simp
    · decide
theorem host_bytes (l : Bs) (h : hostL l = true) (p : UInt8 → Bool) (hp : ∀ c, (inName c || inAddr c || decide (c = 91) || decide (c = 93)) = true → p c = true) : l.all p = true := by
  obtain ⟨n, q, f, rfl, hf, hn, hq⟩ := (host_iff l).1 h
  rw [List.all_append, name_bytes n hn p hp, Bool.true_and]
  cases f
  · rfl
  · rw [if_pos rfl, List.all_cons, hp 58 (by decide), Bool.true_and, List.all_eq_true]
    intro x hx
    apply hp
    have := List.all_eq_true.1 (port_dig hq) x hx
    unfold inName
    rw [this]; simp

theorem hb_of (p : UInt8 → Bool) (h : ((List.range 256).all fun n => !(inName (UInt8.ofNat n) || inAddr (UInt8.ofNat n) || decide (UInt8.ofNat n = 91) || decide (UInt8.ofNat n = 93)) || p (UInt8.ofNat n)) = true) (c : UInt8) (hc : (inName c || inAddr c || decide (c = 91) || decide (c = 93)) = true) : p c = true := by
  have := u8_all (fun c => !(inName c || inAddr c || decide (c = 91) || decide (c = 93)) || p c) h c
  simp only [hc] at this
  simpa using this
/-- targets -/
def connectL : Bs := [67, 79, 78, 78, 69, 67, 84]
def optionsL : Bs := [79, 80, 84, 73, 79, 78, 83]
def schemeL : Bs := [104, 116, 116, 112, 58, 47, 47]
def noEnd (c : UInt8) : Bool := !(c == 47 || c == 63)
def tHost (s : Bs) : Bs := (s.drop 7).takeWhile noEnd
def tRest (s : Bs) : Bs := (s.drop 7).dropWhile noEnd
def tPath (s : Bs) : Bs := if Lib.hasPrefix (tRest s) [47] then tRest s else 47 :: tRest s
def absOk (s : Bs) : Bool := decide (lowL (s.take 7) = schemeL) && hostL (tHost s)
def tgtOk (s : Bs) : Bool := someL vis s && !s.contains 35

/-- the form of a target, its host and its path; nought, and none, if it is refused -/
def tgt (m s : Bs) : Nat × Bs × Bs :=
  if tgtOk s = false then (0, [], [])
  else if m = connectL then (if hostP s ≠ [] ∧ hostL s = true then (3, lowL s, []) else (0, [], []))
  else if m = optionsL ∧ s = [42] then (4, [], [])
  else if s.head? = some 47 then (1, [], s)
  else if absOk s = true then (2, lowL (tHost s), tPath s) else (0, [], [])
def tgtSt (m s : Bs) : Nat := if (tgt m s).1 = 0 then 400 else 0

theorem tgt_shape (m s : Bs) : ((tgt m s).1 = 0 ∧ (tgt m s).2 = ([], [])) ∨ ((tgt m s).1 = 1 ∧ (tgt m s).2 = ([], s) ∧ s.head? = some 47 ∧ tgtOk s = true ∧ m ≠ connectL) ∨ ((tgt m s).1 = 2 ∧ (tgt m s).2.2 ≠ []) ∨ ((tgt m s).1 = 3 ∧ (tgt m s).2.2 = []) ∨ ((tgt m s).1 = 4 ∧ (tgt m s).2.2 = []) := by
  unfold tgt
  by_cases h1 : tgtOk s = false
  · rw [if_pos h1]; simp
  · rw [if_neg h1]
    by_cases h2 : m = connectL
    · rw [if_pos h2]
      split <;> simp
    · rw [if_neg h2]
      by_cases h3 : m = optionsL ∧ s = [42]
      · rw [if_pos h3]; simp
      · rw [if_neg h3]
        by_cases h4 : s.head? = some 47
        · rw [if_pos h4]
          right; left
          exact ⟨rfl, rfl, h4, by simpa using h1, h2⟩
        · rw [if_neg h4]
          by_cases h5 : absOk s = true
          · rw [if_pos h5]
            right; right; left
            refine ⟨rfl, ?_⟩
            show tPath s ≠ []
            unfold tPath
            split
            · next h =>
              intro e
              rw [e] at h
              exact absurd h (by decide)
            · simp
          · rw [if_neg h5]; simp

theorem takeWhile_app (p : UInt8 → Bool) (a b : Bs) (h : a.all p = true) : (a ++ b).takeWhile p = a ++ b.takeWhile p ∧ (a ++ b).dropWhile p = b.dropWhile p := by
  have h' : ∀ x ∈ a, p x = true := fun x hx => List.all_eq_true.1 h x hx
  exact ⟨List.takeWhile_append_of_pos h', List.dropWhile_append_of_pos h'⟩

/-- a path after a host -/
theorem tgt_abs (m pre h p : Bs) (hm : m ≠ connectL) (hpre : pre.length = 7) (hlow : lowL pre = schemeL) (hvis : pre.all vis = true) (hsh : pre.contains 35 = false) (hh : hostL h = true) (hp0 : p.head? = some 47) (hp : tgtOk p = true) :
    tgt m (pre ++ h ++ p) = (2, lowL h, p) := by
  have hv : tgtOk (pre ++ h ++ p) = true := by
    unfold tgtOk someL at hp ⊢
    simp only [Bool.and_eq_true, Bool.not_eq_true'] at hp
    have h1 := host_bytes h hh vis (hb_of vis (by decide +kernel))
    have h2 : h.contains 35 = false := by
      have := host_bytes h hh (fun c => c != 35) (hb_of _ (by decide +kernel))
      rw [List.contains_eq_any_beq]
      rw [List.any_eq_false]
      intro x hx
      have := List.all_eq_true.1 this x hx
      simp at this ⊢
      exact fun e => this e.symm
    have e : (pre ++ h ++ p).contains 35 = false := by
      rw [List.contains_eq_any_beq] at hsh h2 ⊢
      have hp2 := hp.2
      rw [List.contains_eq_any_beq] at hp2
      rw [List.any_append, List.any_append, hsh, h2, hp2]; rfl
    rw [e, List.all_append, List.all_append, hvis, h1, hp.1.2]
    match pre, hpre with
    | c :: t, _ => rfl
  have hd : (pre ++ h ++ p).drop 7 = h ++ p := by
    rw [List.append_assoc, ← hpre, List.drop_left]
  have ht : (pre ++ h ++ p).take 7 = pre := by
    rw [List.append_assoc, ← hpre, List.take_left]
  obtain ⟨p', rfl⟩ : ∃ p', p = 47 :: p' := by
    match p, hp0 with
    | c :: t, h0 => exact ⟨t, by rw [show c = 47 by simpa using h0]⟩
  have hno := host_bytes h hh noEnd (hb_of noEnd (by decide +kernel))
  obtain ⟨w1, w2⟩ := takeWhile_app noEnd h (47 :: p') hno
  have w3 : (47 :: p' : Bs).takeWhile noEnd = [] := by rw [List.takeWhile_cons]; rfl
  have w4 : (47 :: p' : Bs).dropWhile noEnd = 47 :: p' := by rw [List.dropWhile_cons]; rfl
  have e1 : tHost (pre ++ h ++ 47 :: p') = h := by unfold tHost; rw [hd, w1, w3, List.append_nil]
  have e2 : tRest (pre ++ h ++ 47 :: p') = 47 :: p' := by unfold tRest; rw [hd, w2, w4]
  have e3 : tPath (pre ++ h ++ 47 :: p') = 47 :: p' := by
    unfold tPath
    rw [e2, if_pos (by unfold Lib.hasPrefix; simp)]
  have hhead : lowL (pre ++ h ++ 47 :: p') = schemeL ++ lowL h ++ lowL (47 :: p') := by
    rw [← hlow]; simp [lowL]
  have n1 : ¬ (m = optionsL ∧ pre ++ h ++ 47 :: p' = [42]) := by
    rintro ⟨-, e⟩
    have := congrArg List.length e
    simp only [List.length_append, List.length_cons, List.length_nil] at this
    omega
  have n2 : (pre ++ h ++ 47 :: p').head? ≠ some 47 := by
    intro e
    match pre, hpre, hlow with
    | c :: t, _, hl =>
      have hc : c = 47 := by simpa using e
      subst hc
      have h1 : (lowL (47 :: t)).head? = some 47 := by simp [lowL]; decide
      rw [hl] at h1
      exact absurd h1 (by decide)
  unfold tgt
  rw [if_neg (by rw [hv]; simp), if_neg hm, if_neg n1, if_neg n2, if_pos (by unfold absOk; rw [ht, hlow, e1, hh]; rfl), e1, e3]
end Tk
end Go.Proofs.YtpcdaaijlgilkaaGreatDoor
namespace Go.Proofs.YtpcdaaijlgilkaaGreatDoor
namespace Tk

/-- a message: method, target, status, reason, minor version, fields, content, trailers -/
structure Msg where
  m : Bs := []
  t : Bs := []
  st : Nat := 0
  r : Bs := []
  mi : Nat := 0
  f : List (Bs × Bs) := []
  body : Bs := []
  tr : List (Bs × Bs) := []

/-- a parser: its limits; of responses?; the methods that were asked; its flaw; its state (0, 1 a request's first line, 2 a response's, 3 a field line, 4 content of a length, 5 content to the end, 6 in chunks, 7 the message is whole) -/
structure Pr where
  L : Nat
  H : Nat
  C : Nat
  M : Nat
  rsp : Bool := false
  asked : List Bs := []
  bad : Nat := 0
  mode : Nat := 0
  left : Nat := 0
  head : Nat := 0
  line : Bs := []
  msg : Msg := {}
  kind : Nat := 0
  len : Nat := 0
  body : Bs := []
  dc : Dc := newD 0 0 0 0

def nmHost : Bs := [72, 111, 115, 116]
def hostFit (m : Msg) : Bool := if (allF m.f nmHost).length = 0 then decide (m.mi = 0) else decide ((allF m.f nmHost).length = 1) && (decide ((allF m.f nmHost).headD [] = []) || hostL ((allF m.f nmHost).headD []))
def pS (s : Pr) : Nat := if s.rsp then rsS (s.asked.headD []) s.msg.st s.msg.mi s.msg.f else frS s.msg.mi s.msg.f
def pK (s : Pr) : Nat := if s.rsp then rsK (s.asked.headD []) s.msg.st s.msg.mi s.msg.f else frK s.msg.mi s.msg.f 1
def pN (s : Pr) : Nat := if s.rsp then rsN (s.asked.headD []) s.msg.st s.msg.mi s.msg.f else frN s.msg.mi s.msg.f

/-- a flaw was found -/
def Pr.fl (s : Pr) (n : Nat) : Pr := { s with bad := n, mode := 7 }
/-- behind a head -/
def headEndP (s : Pr) : Pr :=
  if !s.rsp && !hostFit s.msg then s.fl 400
  else if pS s ≠ 0 then s.fl (pS s)
  else if pK s = 2 then (if s.M < pN s then { s with kind := 2, len := pN s, bad := 413, mode := 7 } else { s with kind := 2, len := pN s, mode := 4 })
  else if pK s = 3 then { s with kind := 3, len := pN s, mode := 6, dc := newD s.L s.H s.C s.M }
  else if pK s = 4 then { s with kind := 4, len := pN s, mode := 5 }
  else { s with kind := pK s, len := pN s, mode := 7 }
def reqP (s : Pr) (t : Bs) : Pr := if rSt t = 0 then { s with mode := 3, msg := { m := reqM t, t := reqT t, mi := reqN t } } else s.fl (rSt t)
def staP (s : Pr) (t : Bs) : Pr := if sOk t then { s with mode := 3, msg := { st := staN t, r := staR t, mi := staM t } } else s.fl 400
def fldP (s : Pr) (t : Bs) : Pr :=
  if lineOk t then (if s.C ≤ s.msg.f.length then s.fl 431 else { s with msg := { s.msg with f := s.msg.f ++ [(lineN t, lineV t)] } }) else s.fl 400
/-- behind a line -/
def lineP (s : Pr) (t : Bs) : Pr :=
  if s.mode = 0 then (if t = [] then { s with mode := 1 } else reqP s t)
  else if s.mode = 1 then reqP s t
  else if s.mode = 2 then staP s t
  else if t = [] then headEndP s else fldP s t
/-- one byte more of a line: 0 more must come, 1 the line has ended, 2 too much of it, 3 it may not be -/
def addQ (s : Pr) (c : UInt8) : Nat :=
  if !(cr s.line && decide (c = 10)) && decide (s.L ≤ s.line.length + 1) then 2
  else if cr s.line != decide (c = 10) then 3
  else if s.H < s.head + 1 then 2
  else if cr s.line then 1 else 0
/-- .. the parser behind it -/
def Pr.put (s : Pr) (c : UInt8) : Pr := { s with line := s.line ++ [c], head := s.head + 1 }
def chunkP (s : Pr) (d : Dc) : Pr :=
  if d.bad ≠ 0 then { s with dc := d, bad := d.bad, mode := 7 }
  else if d.mode = 5 then { s with dc := d, mode := 7, msg := { s.msg with body := d.body, tr := d.trl } }
  else { s with dc := d }
def countP (s : Pr) (t : Bs) : Pr := if s.body.length + t.length < s.len then { s with body := s.body ++ t } else { s with body := s.body ++ t, mode := 7, msg := { s.msg with body := s.body ++ t } }

def stepQ (s : Pr) (c : UInt8) : Pr :=
  if s.mode ≤ 3 then
    (if addQ s c = 0 then s.put c
    else if addQ s c = 1 then lineP { s with line := [], head := s.head + 1 } s.line.dropLast
    else if addQ s c = 2 then (s.put c).fl 431
    else { s.put c with bad := 400 })
  else if s.mode = 4 then countP s [c]
  else if s.mode = 5 then (if s.M ≤ s.body.length then s.fl 413 else { s with body := s.body ++ [c] })
  else if s.mode = 6 then chunkP s (stepD s.dc c)
  else s
def Pr.ate (s : Pr) (n : Nat) : Pr := { s with left := s.left + n }
def stepP (s : Pr) (c : UInt8) : Pr := (stepQ s c).ate 1
def stopP (s : Pr) : Bool := decide (s.mode = 7) || decide (s.bad ≠ 0) || (s.rsp && s.asked.isEmpty)
def feedP : Pr → Bs → Nat × Pr
  | s, [] => (0, s)
  | s, c :: t => if stopP s then (0, s) else ((feedP (stepP s c) t).1 + 1, (feedP (stepP s c) t).2)

theorem feedP_stop (s : Pr) (l : Bs) (h : stopP s = true) : feedP s l = (0, s) := by
  cases l with
  | nil => rfl
  | cons c t => unfold feedP; rw [if_pos h]
theorem feedP_cons (s : Pr) (c : UInt8) (t : Bs) (h : stopP s = false) : feedP s (c :: t) = ((feedP (stepP s c) t).1 + 1, (feedP (stepP s c) t).2) := by
  rw [feedP, if_neg (by simp [h])]
theorem feedP_append : ∀ (a : Bs) (s : Pr) (b : Bs), feedP s (a ++ b) = ((feedP s a).1 + (feedP (feedP s a).2 b).1, (feedP (feedP s a).2 b).2)
  | [], s, b => by simp [feedP]
  | c :: a, s, b => by
    cases h : stopP s
    · rw [List.cons_append, feedP_cons s c _ h, feedP_cons s c a h, feedP_append a (stepP s c) b]
      simp only [Prod.mk.injEq, and_true]; omega
    · rw [feedP_stop s _ h, feedP_stop s _ h, feedP_stop s _ h]; simp
theorem feedP_le : ∀ (l : Bs) (s : Pr), (feedP s l).1 ≤ l.length
  | [], s => by simp [feedP]
  | c :: t, s => by
    cases h : stopP s
    · rw [feedP_cons s c t h]; have := feedP_le t (stepP s c); simp; omega
    · rw [feedP_stop s _ h]; simp
theorem feedP_all : ∀ (l : Bs) (s : Pr), stopP (feedP s l).2 = false → (feedP s l).1 = l.length
  | [], s, _ => by simp [feedP]
  | c :: t, s, h => by
    cases hs : stopP s
    · rw [feedP_cons s c t hs] at h ⊢; have := feedP_all t (stepP s c) h; simp at this ⊢; omega
    · rw [feedP_stop s _ hs] at h; rw [hs] at h; cases h
theorem feedP_take (l : Bs) (s : Pr) : feedP s (l.take (feedP s l).1) = feedP s l := by
  induction l generalizing s with
  | nil => simp [feedP]
  | cons c t ih =>
    cases h : stopP s
    · rw [feedP_cons s c t h]
      show feedP s ((c :: t).take ((feedP (stepP s c) t).1 + 1)) = _
      rw [List.take_succ_cons, feedP_cons s c _ h, ih (stepP s c)]
    · rw [feedP_stop s _ h, feedP_stop s _ h]
theorem feedP_pos (l : Bs) (s : Pr) (h : stopP s = false) (hl : l ≠ []) : 1 ≤ (feedP s l).1 := by
  cases l with
  | nil => exact absurd rfl hl
  | cons c t => rw [feedP_cons s c t h]; simp

/-- all of a are eaten, and s' is what is then -/
def EatsP (s : Pr) (a : Bs) (s' : Pr) : Prop := feedP s a = (a.length, s')
theorem EatsP.nil (s : Pr) : EatsP s [] s := rfl
theorem EatsP.append {s s1 s2 : Pr} {a b : Bs} (h : EatsP s a s1) (h2 : EatsP s1 b s2) : EatsP s (a ++ b) s2 := by
  unfold EatsP at *
  rw [feedP_append, h]
  simp only [h2, List.length_append]
theorem EatsP.one {s : Pr} {c : UInt8} (h : stopP s = false) : EatsP s [c] (stepP s c) := by
  unfold EatsP; rw [feedP_cons s c [] h]; simp [feedP]
theorem EatsP.cons {s s' : Pr} {c : UInt8} {t : Bs} (h : stopP s = false) (h2 : EatsP (stepP s c) t s') : EatsP s (c :: t) s' := by
  unfold EatsP at *
  rw [feedP_cons s c t h, h2]; simp
theorem EatsP.feed {s s1 : Pr} {l : Bs} {k : Nat} (h : EatsP s (l.take k) s1) (hk : k ≤ l.length) : feedP s l = (k + (feedP s1 (l.drop k)).1, (feedP s1 (l.drop k)).2) := by
  have h2 := feedP_append (l.take k) s (l.drop k)
  have hl : (l.take k).length = k := by simp; omega
  rw [List.take_append_drop] at h2
  rw [h2]
  unfold EatsP at h
  rw [h, hl]
theorem EatsP.self (s : Pr) (l : Bs) : EatsP s (l.take (feedP s l).1) (feedP s l).2 := by
  have h1 := feedP_take l s
  have h2 := feedP_le l s
  have hl : (l.take (feedP s l).1).length = (feedP s l).1 := by simp; omega
  unfold EatsP
  rw [h1, hl]

-- the whole of some bytes: messages that are taken at once
def Pr.fresh (s : Pr) : Pr := { L := s.L, H := s.H, C := s.C, M := s.M, rsp := s.rsp, asked := if s.rsp && decide (200 ≤ s.msg.st) then s.asked.tail else s.asked, mode := if s.rsp then 2 else 0 }
def waitP (s : Pr) : Bool := decide (s.mode = 7) && decide (s.bad = 0)
def goP : Pr → Bs → List Msg × Pr
  | s, [] => ([], s)
  | s, c :: t => if stopP s then ([], s)
    else if waitP (stepP s c) then ((stepP s c).msg :: (goP (stepP s c).fresh t).1, (goP (stepP s c).fresh t).2)
    else goP (stepP s c) t
theorem goP_stop (s : Pr) (l : Bs) (h : stopP s = true) : goP s l = ([], s) := by
  cases l with
  | nil => rfl
  | cons c t => unfold goP; rw [if_pos h]
theorem goP_cons (s : Pr) (c : UInt8) (t : Bs) (h : stopP s = false) : goP s (c :: t) = if waitP (stepP s c) then ((stepP s c).msg :: (goP (stepP s c).fresh t).1, (goP (stepP s c).fresh t).2) else goP (stepP s c) t := by
  rw [goP, if_neg (by simp [h])]
theorem goP_append : ∀ (a : Bs) (s : Pr) (b : Bs), goP s (a ++ b) = ((goP s a).1 ++ (goP (goP s a).2 b).1, (goP (goP s a).2 b).2)
  | [], s, b => by simp [goP]
  | c :: a, s, b => by
    cases h : stopP s
    · rw [List.cons_append, goP_cons s c _ h, goP_cons s c a h]
      cases hw : waitP (stepP s c)
      · simp only [Bool.false_eq_true, if_false]
        exact goP_append a (stepP s c) b
      · simp only [if_true]
        rw [goP_append a (stepP s c).fresh b]
        rfl
    · rw [goP_stop s _ h, goP_stop s _ h, goP_stop s _ h]; simp
/-- a part that is fed, and what waits behind it is taken -/
def takeP (s : Pr) : List Msg × Pr := if waitP s then ([s.msg], s.fresh) else ([], s)
theorem goP_feed : ∀ (l : Bs) (s : Pr), stopP s = false → l ≠ [] → goP s (l.take (feedP s l).1) = takeP (feedP s l).2
  | [], s, _, hl => absurd rfl hl
  | c :: t, s, h, _ => by
    rw [feedP_cons s c t h, List.take_succ_cons, goP_cons s c _ h]
    cases hw : waitP (stepP s c)
    · simp only [Bool.false_eq_true, if_false]
      cases hs : stopP (stepP s c)
      · cases t with
        | nil => simp [feedP, goP, takeP, hw]
        | cons c2 t2 => exact goP_feed (c2 :: t2) (stepP s c) hs (by simp)
      · rw [feedP_stop _ _ hs]
        simp [goP, takeP, hw]
    · have hs : stopP (stepP s c) = true := by unfold waitP at hw; unfold stopP; simp at hw ⊢; simp [hw.1]
      rw [feedP_stop _ _ hs]
      simp [goP, takeP, hw]
/-- the end of the connection -/
def conP (s : Pr) : Bool := decide (s.mode ≠ 7) && decide (s.bad = 0) && (!s.rsp || !s.asked.isEmpty)
def leftP (s : Pr) : Nat := if waitP s then 0 else s.left
def endP (s : Pr) : Pr :=
  if conP s && decide (s.kind = 4) then { s with mode := 7, msg := { s.msg with body := s.body } }
  else if decide (0 < leftP s) && decide (s.bad = 0) then { s with bad := 400 } else s
def allM (s : Pr) (b : Bs) : List Msg := (goP s b).1
def allS (s : Pr) (b : Bs) : Nat := (endP (goP s b).2).bad
def newP (L H C M : Nat) (rsp : Bool) : Pr := { L := L, H := H, C := C, M := M, rsp := rsp, mode := if rsp then 2 else 0 }

theorem not_stop {s : Pr} (h : stopP s = false) : s.mode ≠ 7 ∧ s.bad = 0 ∧ (s.rsp && s.asked.isEmpty) = false := by
  unfold stopP at h
  simp only [Bool.or_eq_false_iff, decide_eq_false_iff_not, Classical.not_not] at h
  exact ⟨h.1.1, h.1.2, h.2⟩
theorem is_go {s : Pr} (h1 : s.mode ≠ 7) (h2 : s.bad = 0) (h3 : (s.rsp && s.asked.isEmpty) = false) : stopP s = false := by
  unfold stopP; simp [h1, h2, h3]

-- content of a length, in chunks, to the end: by parts
theorem stepP_4 (s : Pr) (c : UInt8) (h : s.mode = 4) : stepP s c = (countP s [c]).ate 1 := by unfold stepP stepQ; rw [h]; rfl
theorem stepP_5 (s : Pr) (c : UInt8) (h : s.mode = 5) : stepP s c = (if s.M ≤ s.body.length then s.fl 413 else { s with body := s.body ++ [c] }).ate 1 := by unfold stepP stepQ; rw [h]; rfl
theorem stepP_6 (s : Pr) (c : UInt8) (h : s.mode = 6) : stepP s c = (chunkP s (stepD s.dc c)).ate 1 := by unfold stepP stepQ; rw [h]; rfl
theorem ate_ate (s : Pr) (a b : Nat) : (s.ate a).ate b = s.ate (a + b) := by unfold Pr.ate; simp [Nat.add_assoc]
theorem eats_count : ∀ (t : Bs) (s : Pr), stopP s = false → s.mode = 4 → t ≠ [] → s.body.length + t.length ≤ s.len → EatsP s t ((countP s t).ate t.length)
  | [], _, _, _, h, _ => absurd rfl h
  | [c], s, h, hm, _, _ => by
    have := EatsP.one (c := c) h
    rw [stepP_4 s c hm] at this
    exact this
  | c :: d :: t, s, h, hm, _, hl => by
    simp only [List.length_cons] at hl
    refine EatsP.cons h ?_
    rw [stepP_4 s c hm]
    obtain ⟨n1, n2, n3⟩ := not_stop h
    have hc : countP s [c] = { s with body := s.body ++ [c] } := by unfold countP; rw [if_pos (by simp; omega)]
    rw [hc]
    have hk : stopP (Pr.ate { s with body := s.body ++ [c] } 1) = false := is_go n1 n2 n3
    have ih := eats_count (d :: t) (Pr.ate { s with body := s.body ++ [c] } 1) hk hm (by simp) (by simp [Pr.ate]; omega)
    have e : (countP (Pr.ate { s with body := s.body ++ [c] } 1) (d :: t)).ate (d :: t).length = (countP s (c :: d :: t)).ate (c :: d :: t).length := by
      unfold countP Pr.ate
      simp only [List.length_append, List.length_cons, List.length_nil, List.append_assoc, List.cons_append, List.nil_append]
      by_cases hq : s.body.length + (t.length + 1 + 1) < s.len
      · rw [if_pos (by omega), if_pos hq]
        simp only [Pr.mk.injEq, true_and, and_true]
        omega
      · rw [if_neg (by omega), if_neg hq]
        simp only [Pr.mk.injEq, true_and, and_true]
        omega
    rw [e] at ih
    exact ih
theorem eats_body : ∀ (t : Bs) (s : Pr), stopP s = false → s.mode = 5 → s.body.length + t.length ≤ s.M → EatsP s t (Pr.ate { s with body := s.body ++ t } t.length)
  | [], s, _, _, _ => by unfold EatsP Pr.ate; simp [feedP]
  | c :: t, s, h, hm, hl => by
    simp only [List.length_cons] at hl
    obtain ⟨n1, n2, n3⟩ := not_stop h
    refine EatsP.cons h ?_
    rw [stepP_5 s c hm, if_neg (by omega)]
    have hk : stopP (Pr.ate { s with body := s.body ++ [c] } 1) = false := is_go n1 n2 n3
    have ih := eats_body t (Pr.ate { s with body := s.body ++ [c] } 1) hk hm (by simp [Pr.ate]; omega)
    have e : Pr.ate { Pr.ate { s with body := s.body ++ [c] } 1 with body := (Pr.ate { s with body := s.body ++ [c] } 1).body ++ t } t.length = Pr.ate { s with body := s.body ++ c :: t } (c :: t).length := by
      unfold Pr.ate
      simp only [List.length_cons, List.append_assoc, List.cons_append, List.nil_append, Pr.mk.injEq, true_and, and_true]
      omega
    rw [e] at ih
    exact ih
theorem eats_chunk : ∀ (t : Bs) (s : Pr), stopP s = false → s.mode = 6 → stopD s.dc = false → t ≠ [] → EatsP s (t.take (feedD s.dc t).1) ((chunkP s (feedD s.dc t).2).ate (feedD s.dc t).1)
  | [], _, _, _, _, h => absurd rfl h
  | c :: t, s, h, hm, hd, _ => by
    obtain ⟨n1, n2, n3⟩ := not_stop h
    rw [feedD_cons s.dc c t hd]
    simp only [List.take_succ_cons]
    refine EatsP.cons h ?_
    rw [stepP_6 s c hm]
    by_cases hz : stopD (stepD s.dc c) = true
    · rw [feedD_stop _ _ hz]
      exact EatsP.nil _
    · have hz : stopD (stepD s.dc c) = false := by simpa using hz
      obtain ⟨z1, z2⟩ := (stop_false _).1 hz
      have hc : chunkP s (stepD s.dc c) = { s with dc := stepD s.dc c } := by unfold chunkP; rw [if_neg (by omega), if_neg z1]
      rw [hc]
      cases t with
      | nil =>
        have : chunkP s (stepD s.dc c) = { s with dc := stepD s.dc c } := hc
        simp only [feedD]
        rw [this]
        exact EatsP.nil _
      | cons d t2 =>
        have hk : stopP (Pr.ate { s with dc := stepD s.dc c } 1) = false := is_go n1 n2 n3
        have ih := eats_chunk (d :: t2) (Pr.ate { s with dc := stepD s.dc c } 1) hk hm hz (by simp)
        have e : (chunkP (Pr.ate { s with dc := stepD s.dc c } 1) (feedD (stepD s.dc c) (d :: t2)).2).ate (feedD (stepD s.dc c) (d :: t2)).1 = (chunkP s (feedD (stepD s.dc c) (d :: t2)).2).ate ((feedD (stepD s.dc c) (d :: t2)).1 + 1) := by
          generalize (feedD (stepD s.dc c) (d :: t2)).2 = d2
          generalize (feedD (stepD s.dc c) (d :: t2)).1 = k
          unfold chunkP Pr.ate
          split
          · simp only [Pr.mk.injEq, true_and, and_true]; omega
          · split <;> simp only [Pr.mk.injEq, true_and, and_true] <;> omega
        have ih2 : EatsP (Pr.ate { s with dc := stepD s.dc c } 1) ((d :: t2).take (feedD (stepD s.dc c) (d :: t2)).1) ((chunkP (Pr.ate { s with dc := stepD s.dc c } 1) (feedD (stepD s.dc c) (d :: t2)).2).ate (feedD (stepD s.dc c) (d :: t2)).1) := ih
        rw [e] at ih2
        exact ih2
end Tk
end Go.Proofs.YtpcdaaijlgilkaaGreatDoor
namespace Go.Proofs.YtpcdaaijlgilkaaGreatDoor
namespace Tk

theorem frS_in (m : Int) (l : List (Bs × Bs)) : frS m l = 0 ∨ frS m l = 400 ∨ frS m l = 501 := by
  have h1 := lenS_two l
  have h2 := codS_two l
  unfold frS
  split
  · split
    · simp
    · omega
  · omega
theorem rsS_in (x : Bs) (n m : Int) (l : List (Bs × Bs)) : rsS x n m l = 0 ∨ rsS x n m l = 400 ∨ rsS x n m l = 501 := by
  unfold rsS; split
  · simp
  · exact frS_in m l
theorem frN_le (m : Int) (l : List (Bs × Bs)) : frN m l ≤ 9007199254740991 := by
  have h := lenN_le l
  unfold maxN at h
  unfold frN
  repeat' split
  all_goals omega
theorem rsN_le (x : Bs) (n m : Int) (l : List (Bs × Bs)) : rsN x n m l ≤ 9007199254740991 := by
  unfold rsN; split
  · exact Nat.zero_le _
  · exact frN_le m l
theorem frK_2 (m : Int) (l : List (Bs × Bs)) (n : Nat) (hn : n ≠ 2) (h : frK m l n = 2) : 0 < frN m l := by
  unfold frK at h
  unfold frN
  split at h
  · rename_i h0
    rw [if_pos h0]
    split at h
    · omega
    · rename_i h1
      rw [if_neg h1]
      split at h
      · split at h
        · omega
        · omega
      · omega
  · omega
theorem rsK_2 (x : Bs) (s m : Int) (l : List (Bs × Bs)) (h : rsK x s m l = 2) : 0 < rsN x s m l := by
  unfold rsK at h
  unfold rsN
  split at h
  · omega
  · rename_i h0
    rw [if_neg h0]
    exact frK_2 m l 4 (by omega) h
theorem cut1_le (c : UInt8) (l : Bs) : (cutL c l).1.length ≤ l.length ∧ (cutL c l).2.1.length ≤ l.length := cutL_le c l
theorem vMi_le (l : Bs) : vMi l ≤ 1 := by
  by_cases h : vSt l = 0
  · have := (vSt_zero l h).1; omega
  · unfold vMi; rw [if_neg h]; omega
theorem req_lens (t : Bs) : (reqM t).length ≤ t.length ∧ (reqT t).length ≤ t.length ∧ reqN t ≤ 1 := by
  have h1 := (cut1_le 32 t)
  have h2 := (cut1_le 32 (cutL 32 t).2.1)
  have h3 := vMi_le (rV t)
  unfold reqM reqT reqN
  refine ⟨?_, ?_, ?_⟩
  · split
    · exact h1.1
    · simp
  · split
    · unfold rT; omega
    · simp
  · split
    · exact h3
    · omega
theorem sta_lens (t : Bs) : (staR t).length ≤ t.length ∧ staN t ≤ 599 ∧ staM t ≤ 1 := by
  have h1 := (cut1_le 32 t)
  have h2 := (cut1_le 32 (cutL 32 t).2.1)
  have h3 := vMi_le (sV t)
  unfold staR staN staM
  refine ⟨?_, ?_, ?_⟩
  · split
    · unfold sR; omega
    · simp
  · split
    · rename_i h
      unfold sOk sIn at h
      simp only [Bool.and_eq_true, decide_eq_true_eq] at h
      omega
    · omega
  · split
    · exact h3
    · omega
theorem lineNV_sum (t : Bs) (h : lineOk t = true) : (lineN t).length + (lineV t).length + 1 ≤ t.length := by
  unfold lineOk at h
  rw [Bool.and_eq_true] at h
  have hs := cut_split 58 t
  rw [if_pos h.1] at hs
  have hl := congrArg List.length hs
  simp only [List.length_append, List.length_cons] at hl
  have ht := trimL_le (cutL 58 t).2.1
  unfold lineN lineV
  omega
def LimP (s : Pr) : Prop := s.L ≤ 9223372036854775807 ∧ s.H ≤ 9223372036854775807 ∧ s.C ≤ 9223372036854775807 ∧ s.M ≤ 9223372036854775807

/-- what is true of a parser at all times; n: how many bytes of a message it may have eaten -/
structure Pr.Fit (s : Pr) (n : Nat) : Prop where
  left : s.left ≤ n
  head : s.head ≤ s.left
  lin : s.line.length ≤ s.head
  sum : sumF s.msg.f + s.line.length ≤ 2 * s.head
  body : s.body.length ≤ s.left
  dc : s.dc.Fit s.left
  mode : s.mode ≤ 7
  cnt : s.mode = 4 → s.body.length < s.len ∧ s.len ≤ s.M
  len : s.len ≤ 9007199254740991
  close : s.mode = 5 → s.body.length ≤ s.M
  chk : s.mode = 6 → stopD s.dc = false
  dlim : s.mode = 6 → s.dc.L = s.L ∧ s.dc.H = s.H ∧ s.dc.C = s.C ∧ s.dc.M = s.M
  txt : s.msg.m.length ≤ s.left ∧ s.msg.t.length ≤ s.left ∧ s.msg.r.length ≤ s.left ∧ s.msg.body.length ≤ s.left
  trl : s.msg.tr.length ≤ s.left ∧ ∀ f ∈ s.msg.tr, f.1.length ≤ s.left ∧ f.2.length ≤ s.left
  num : s.msg.mi ≤ 1 ∧ s.msg.st ≤ 599
  bad : s.bad = 0 ∨ s.bad = 400 ∨ s.bad = 413 ∨ s.bad = 431 ∨ s.bad = 501 ∨ s.bad = 505
  rsp : s.rsp = true → s.asked ≠ [] → True

theorem Pr.Fit.mono {s : Pr} {n m : Nat} (h : s.Fit n) (hm : n ≤ m) : s.Fit m := { h with left := Nat.le_trans h.left hm }

theorem sumF_app (a : List (Bs × Bs)) (f : Bs × Bs) : sumF (a ++ [f]) = sumF a + (f.1.length + f.2.length + 4) := by
  induction a with
  | nil => simp [sumF]
  | cons x t ih => simp only [List.cons_append, sumF, ih]; omega
theorem sumF_ge (l : List (Bs × Bs)) : 4 * l.length ≤ sumF l := by
  induction l with
  | nil => simp
  | cons x t ih => simp only [List.length_cons, sumF]; omega
theorem pN_le (s : Pr) : pN s ≤ 9007199254740991 := by
  unfold pN; split
  · exact rsN_le _ _ _ _
  · exact frN_le _ _
theorem pN_pos (s : Pr) (h : pK s = 2) : 0 < pN s := by
  unfold pK at h; unfold pN
  split
  · rename_i hr; rw [if_pos hr] at h; exact rsK_2 _ _ _ _ h
  · rename_i hr; rw [if_neg hr] at h; exact frK_2 _ _ 1 (by omega) h
theorem pS_in (s : Pr) : pS s = 0 ∨ pS s = 400 ∨ pS s = 501 := by
  unfold pS; split
  · exact rsS_in _ _ _ _
  · exact frS_in _ _
theorem Pr.Fit.more {s : Pr} {n : Nat} (h : s.Fit n) (k : Nat) : (s.ate k).Fit (n + k) := by
  obtain ⟨h1, h2, hl2, h3, h4, h5, h6, h7, h8, h9, h10, h11, h12, h13, h14, h15, h16⟩ := h
  obtain ⟨a1, a2, a3, a4⟩ := h12
  refine ⟨?_, ?_, hl2, h3, ?_, h5.mono (Nat.le_add_right _ _), h6, h7, h8, h9, h10, h11, ⟨?_, ?_, ?_, ?_⟩, ⟨?_, fun f hf => ?_⟩, h14, h15, h16⟩
  · show s.left + k ≤ _; omega
  · show s.head ≤ s.left + k; omega
  · show s.body.length ≤ s.left + k; omega
  · show s.msg.m.length ≤ s.left + k; omega
  · show s.msg.t.length ≤ s.left + k; omega
  · show s.msg.r.length ≤ s.left + k; omega
  · show s.msg.body.length ≤ s.left + k; omega
  · show s.msg.tr.length ≤ s.left + k; have := h13.1; omega
  · have := h13.2 f hf; exact ⟨Nat.le_trans this.1 (Nat.le_add_right _ _), Nat.le_trans this.2 (Nat.le_add_right _ _)⟩
theorem Pr.Fit.flaw {s : Pr} {n k : Nat} (h : s.Fit n) (hk : k = 400 ∨ k = 413 ∨ k = 431 ∨ k = 501 ∨ k = 505) : (s.fl k).Fit n := by
  obtain ⟨h1, h2, hl2, h3, h4, h5, h6, h7, h8, h9, h10, h11, h12, h13, h14, h15, h16⟩ := h
  exact ⟨h1, h2, hl2, h3, h4, h5, by simp [Pr.fl], by simp [Pr.fl], h8, by simp [Pr.fl], by simp [Pr.fl], by simp [Pr.fl], h12, h13, h14, .inr hk, h16⟩
theorem headEnd_fit {s : Pr} {n : Nat} (h : s.Fit n) (hb : s.body = []) : (headEndP s).Fit n := by
  have hn := pN_le s
  have hs := pS_in s
  unfold headEndP
  split
  · exact h.flaw (by simp)
  · split
    · rename_i h0; exact h.flaw (by omega)
    · obtain ⟨h1, h2, hl2, h3, h4, h5, h6, h7, h8, h9, h10, h11, h12, h13, h14, h15, h16⟩ := h
      split
      · split
        · exact ⟨h1, h2, hl2, h3, h4, h5, by simp, by simp, hn, by simp, by simp, by simp, h12, h13, h14, by simp, h16⟩
        · rename_i h0 hk hM
          exact ⟨h1, h2, hl2, h3, h4, h5, by simp, fun _ => ⟨by rw [hb]; show 0 < pN s; exact pN_pos s hk, by show pN s ≤ s.M; omega⟩, hn, by simp, by simp, by simp, h12, h13, h14, h15, h16⟩
      · split
        · exact ⟨h1, h2, hl2, h3, h4, (newD_fit _ _ _ _).mono (Nat.zero_le _), by simp, by simp, hn, by simp, fun _ => rfl, fun _ => ⟨rfl, rfl, rfl, rfl⟩, h12, h13, h14, h15, h16⟩
        · split
          · exact ⟨h1, h2, hl2, h3, h4, h5, by simp, by simp, hn, fun _ => by rw [hb]; exact Nat.zero_le _, by simp, by simp, h12, h13, h14, h15, h16⟩
          · exact ⟨h1, h2, hl2, h3, h4, h5, by simp, by simp, hn, by simp, by simp, by simp, h12, h13, h14, h15, h16⟩
theorem req_fit {s : Pr} {n : Nat} (t : Bs) (h : s.Fit n) (hl : t.length ≤ s.left) (hf : s.msg.f = []) : (reqP s t).Fit n := by
  obtain ⟨q1, q2, q3⟩ := req_lens t
  have h3 := rSt_three t
  unfold reqP
  split
  · obtain ⟨h1, h2, hl2, h3, h4, h5, h6, h7, h8, h9, h10, h11, h12, h13, h14, h15, h16⟩ := h
    refine ⟨h1, h2, hl2, by rw [hf] at h3; exact h3, h4, h5, by simp, by simp, h8, by simp, by simp, by simp, ⟨by show (reqM t).length ≤ s.left; omega, by show (reqT t).length ≤ s.left; omega, by simp, by simp⟩, ⟨by simp, by simp⟩, ⟨q3, by simp⟩, h15, h16⟩
  · exact h.flaw (by omega)
theorem sta_fit {s : Pr} {n : Nat} (t : Bs) (h : s.Fit n) (hl : t.length ≤ s.left) (hf : s.msg.f = []) : (staP s t).Fit n := by
  obtain ⟨q1, q2, q3⟩ := sta_lens t
  unfold staP
  split
  · obtain ⟨h1, h2, hl2, h3, h4, h5, h6, h7, h8, h9, h10, h11, h12, h13, h14, h15, h16⟩ := h
    refine ⟨h1, h2, hl2, by rw [hf] at h3; exact h3, h4, h5, by simp, by simp, h8, by simp, by simp, by simp, ⟨by simp, by simp, by show (staR t).length ≤ s.left; omega, by simp⟩, ⟨by simp, by simp⟩, ⟨q3, q2⟩, h15, h16⟩
  · exact h.flaw (by omega)
theorem fld_fit {s : Pr} {n : Nat} (t : Bs) (h : s.Fit n) (hl : sumF s.msg.f + t.length + 3 ≤ 2 * s.head) (he : s.line = []) : (fldP s t).Fit n := by
  unfold fldP
  split
  · rename_i hk
    have hn := lineNV_sum t hk
    split
    · exact h.flaw (by omega)
    · obtain ⟨h1, h2, hl2, h3, h4, h5, h6, h7, h8, h9, h10, h11, h12, h13, h14, h15, h16⟩ := h
      refine ⟨h1, h2, hl2, ?_, h4, h5, h6, h7, h8, h9, h10, h11, h12, h13, h14, h15, h16⟩
      show sumF (s.msg.f ++ [(lineN t, lineV t)]) + s.line.length ≤ 2 * s.head
      rw [sumF_app, he]
      simp only [List.length_nil]; omega
  · exact h.flaw (by omega)

/-- a message has no fields ahead of its first line, no content ahead of the end of its head -/
structure Pr.Ord (s : Pr) : Prop where
  flds : s.mode ≤ 2 → s.msg = {}
  cont : s.mode ≤ 3 → s.body = [] ∧ s.kind = 0 ∧ s.len = 0
  kind : s.mode ≠ 5 → s.mode ≠ 7 → s.kind ≠ 4
  pos : s.mode ≠ 0 → s.mode ≠ 2 → 1 ≤ s.left
  line : s.line ≠ [] → 1 ≤ s.left
  msgb : s.mode ≤ 6 → s.msg.body = [] ∧ s.msg.tr = []

theorem ite_ate (p : Prop) [Decidable p] (a b : Pr) (k : Nat) : (if p then a else b).ate k = if p then a.ate k else b.ate k := by split <;> rfl
theorem headEndP_ate (s : Pr) (k : Nat) : headEndP (s.ate k) = (headEndP s).ate k := by unfold headEndP; simp only [ite_ate]; rfl
theorem reqP_ate (s : Pr) (t : Bs) (k : Nat) : reqP (s.ate k) t = (reqP s t).ate k := by unfold reqP; simp only [ite_ate]; rfl
theorem staP_ate (s : Pr) (t : Bs) (k : Nat) : staP (s.ate k) t = (staP s t).ate k := by unfold staP; simp only [ite_ate]; rfl
theorem fldP_ate (s : Pr) (t : Bs) (k : Nat) : fldP (s.ate k) t = (fldP s t).ate k := by unfold fldP; simp only [ite_ate]; rfl
theorem lineP_ate (s : Pr) (t : Bs) (k : Nat) : lineP (s.ate k) t = (lineP s t).ate k := by
  unfold lineP; simp only [ite_ate, headEndP_ate, reqP_ate, staP_ate, fldP_ate]; rfl
theorem line_fit {s : Pr} {n : Nat} (t : Bs) (h : s.Fit n) (ho : s.Ord) (hm : s.mode ≤ 3) (ht : t.length ≤ s.left) (hl : sumF s.msg.f + t.length + 3 ≤ 2 * s.head) (he : s.line = []) : (lineP s t).Fit n := by
  unfold lineP
  split
  · rename_i h0
    split
    · obtain ⟨h1, h2, hl2, h3, h4, h5, h6, h7, h8, h9, h10, h11, h12, h13, h14, h15, h16⟩ := h
      exact ⟨h1, h2, hl2, h3, h4, h5, by simp, by simp, h8, by simp, by simp, by simp, h12, h13, h14, h15, h16⟩
    · exact req_fit t h ht (by rw [ho.flds (by omega)])
  · split
    · exact req_fit t h ht (by rw [ho.flds (by omega)])
    · split
      · exact sta_fit t h ht (by rw [ho.flds (by omega)])
      · split
        · exact headEnd_fit h (ho.cont hm).1
        · exact fld_fit t h hl he
theorem stepP_fit (s : Pr) (c : UInt8) (n : Nat) (h : s.Fit n) (ho : s.Ord) : (stepP s c).Fit (n + 1) := by
  have hd := stepD_fit s.dc c s.left h.dc
  have hdl := stepD_lim s.dc c
  have hM := h.more 1
  have hput : (stopP s = false ∨ True) → ((s.put c).ate 1).Fit (n + 1) := by
    intro _
    obtain ⟨h1, h2, hl2, h3, h4, h5, h6, h7, h8, h9, h10, h11, h12, h13, h14, h15, h16⟩ := hM
    refine ⟨h1, ?_, ?_, ?_, h4, h5, h6, h7, h8, h9, h10, h11, h12, h13, h14, h15, h16⟩
    · show s.head + 1 ≤ s.left + 1; have := h.head; omega
    · show (s.line ++ [c]).length ≤ s.head + 1; have := h.lin; simp; omega
    · show sumF s.msg.f + (s.line ++ [c]).length ≤ 2 * (s.head + 1); have := h.sum; simp; omega
  have hput := hput (.inr trivial)
  unfold stepP stepQ
  split
  · rename_i hm
    split
    · exact hput
    · split
      · by_cases hl : s.line = []
        · -- the line has no byte
          have e : ({ s with line := [], head := s.head + 1 } : Pr).Fit s.left ∨ True := .inr trivial
          clear e
          have hh : (Pr.ate { s with line := [], head := s.head + 1 } 1).Fit (n + 1) := by
            obtain ⟨h1, h2, hl2, h3, h4, h5, h6, h7, h8, h9, h10, h11, h12, h13, h14, h15, h16⟩ := hM
            refine ⟨h1, ?_, ?_, ?_, h4, h5, h6, h7, h8, h9, h10, h11, h12, h13, h14, h15, h16⟩
            · show s.head + 1 ≤ s.left + 1; have := h.head; omega
            · exact Nat.zero_le _
            · show sumF s.msg.f + 0 ≤ 2 * (s.head + 1); have := h.sum; omega
          have hcr : cr s.line = false := by rw [hl]; rfl
          rename_i h1 h2
          exfalso
          unfold addQ at h2
          rw [hcr] at h2
          revert h2
          by_cases c10 : c = 10 <;> simp [c10] <;> (repeat' split) <;> simp
        · have hln : 1 ≤ s.line.length := by
            cases hs : s.line with
            | nil => exact absurd hs hl
            | cons a b => simp
          have hh : (Pr.ate { s with line := [], head := s.head + 1 } 1).Fit (n + 1) := by
            obtain ⟨h1, h2, hl2, h3, h4, h5, h6, h7, h8, h9, h10, h11, h12, h13, h14, h15, h16⟩ := hM
            refine ⟨h1, ?_, ?_, ?_, h4, h5, h6, h7, h8, h9, h10, h11, h12, h13, h14, h15, h16⟩
            · show s.head + 1 ≤ s.left + 1; have := h.head; omega
            · exact Nat.zero_le _
            · show sumF s.msg.f + 0 ≤ 2 * (s.head + 1); have := h.sum; omega
          have hoo : (Pr.ate { s with line := [], head := s.head + 1 } 1).Ord := ⟨ho.flds, ho.cont, ho.kind, fun _ _ => by simp [Pr.ate], fun _ => by simp [Pr.ate], ho.msgb⟩
          have hx := line_fit s.line.dropLast hh hoo hm (by show s.line.dropLast.length ≤ s.left + 1; have := h.lin; have := h.head; simp; omega) (by show sumF s.msg.f + s.line.dropLast.length + 3 ≤ 2 * (s.head + 1); have := h.sum; simp; omega) rfl
          rw [lineP_ate] at hx
          exact hx
      · split
        · exact (show ((s.put c).fl 431).ate 1 = ((s.put c).ate 1).fl 431 from rfl) ▸ hput.flaw (by omega)
        · obtain ⟨h1, h2, hl2, h3, h4, h5, h6, h7, h8, h9, h10, h11, h12, h13, h14, h15, h16⟩ := hput
          exact ⟨h1, h2, hl2, h3, h4, h5, h6, h7, h8, h9, h10, h11, h12, h13, h14, by simp [Pr.ate], h16⟩
  · split
    · rename_i _ hm
      have hc := h.cnt hm
      obtain ⟨h1, h2, hl2, h3, h4, h5, h6, h7, h8, h9, h10, h11, h12, h13, h14, h15, h16⟩ := hM
      unfold countP
      split
      · rename_i hlt
        simp only [List.length_cons, List.length_nil] at hlt
        exact ⟨h1, h2, hl2, h3, by show (s.body ++ [c]).length ≤ s.left + 1; have := h.body; simp; omega, h5, h6, fun _ => ⟨by show (s.body ++ [c]).length < s.len; simp; omega, hc.2⟩, h8, fun e => absurd (show s.mode = 5 from e) (by omega), h10, h11, h12, h13, h14, h15, h16⟩
      · have hb : (s.body ++ [c]).length ≤ s.left + 1 := by have := h.body; simp; omega
        exact ⟨h1, h2, hl2, h3, hb, h5, by simp [Pr.ate], by simp [Pr.ate], h8, by simp [Pr.ate], by simp [Pr.ate], by simp [Pr.ate], ⟨h12.1, h12.2.1, h12.2.2.1, hb⟩, h13, h14, h15, h16⟩
    · split
      · split
        · exact (show (s.fl 413).ate 1 = (s.ate 1).fl 413 from rfl) ▸ hM.flaw (by omega)
        · rename_i _ _ hm hM2
          obtain ⟨h1, h2, hl2, h3, h4, h5, h6, h7, h8, h9, h10, h11, h12, h13, h14, h15, h16⟩ := hM
          exact ⟨h1, h2, hl2, h3, by show (s.body ++ [c]).length ≤ s.left + 1; have := h.body; simp; omega, h5, h6, fun e => absurd (show s.mode = 4 from e) (by omega), h8, fun _ => by show (s.body ++ [c]).length ≤ s.M; simp; omega, h10, h11, h12, h13, h14, h15, h16⟩
      · split
        · rename_i _ _ _ hm
          have hdl2 := h.dlim hm
          obtain ⟨h1, h2, hl2, h3, h4, h5, h6, h7, h8, h9, h10, h11, h12, h13, h14, h15, h16⟩ := hM
          have hb := hd.bad
          have hb2 : (stepD s.dc c).bad = 0 ∨ (stepD s.dc c).bad = 400 ∨ (stepD s.dc c).bad = 413 ∨ (stepD s.dc c).bad = 431 ∨ (stepD s.dc c).bad = 501 ∨ (stepD s.dc c).bad = 505 := by omega
          unfold chunkP
          split
          · exact ⟨h1, h2, hl2, h3, h4, hd, by simp [Pr.ate], by simp [Pr.ate], h8, by simp [Pr.ate], by simp [Pr.ate], by simp [Pr.ate], h12, h13, h14, hb2, h16⟩
          · split
            · exact ⟨h1, h2, hl2, h3, h4, hd, by simp [Pr.ate], by simp [Pr.ate], h8, by simp [Pr.ate], by simp [Pr.ate], by simp [Pr.ate], ⟨h12.1, h12.2.1, h12.2.2.1, hd.body⟩, ⟨hd.trl, hd.each⟩, h14, h15, h16⟩
            · rename_i z1 z2
              exact ⟨h1, h2, hl2, h3, h4, hd, h6, h7, h8, h9, fun _ => (stop_false _).2 ⟨z2, by show (stepD s.dc c).bad = 0; omega⟩, fun _ => ⟨hdl.1.trans hdl2.1, hdl.2.1.trans hdl2.2.1, hdl.2.2.1.trans hdl2.2.2.1, hdl.2.2.2.trans hdl2.2.2.2⟩, h12, h13, h14, h15, h16⟩
        · exact hM
end Tk
end Go.Proofs.YtpcdaaijlgilkaaGreatDoor
namespace Go.Proofs.YtpcdaaijlgilkaaGreatDoor
namespace Tk

theorem headEnd_mode (s : Pr) : 3 < (headEndP s).mode := by
  unfold headEndP Pr.fl
  repeat' split
  all_goals (first | (show 3 < 7; omega) | (show 3 < 4; omega) | (show 3 < 6; omega) | (show 3 < 5; omega))
theorem ord_up {s : Pr} (h1 : 1 ≤ s.left) (h2 : s.mode = 7) : s.Ord :=
  ⟨fun h => by omega, fun h => by omega, fun _ h => absurd h2 h, fun _ _ => h1, fun _ => h1, fun h => by omega⟩
theorem headEnd_ord {s : Pr} (h : s.Ord) (hm : s.mode = 3) (hl : 1 ≤ s.left) : (headEndP s).Ord := by
  have hb := h.msgb (by omega)
  unfold headEndP
  split
  · exact ord_up hl rfl
  · split
    · exact ord_up hl rfl
    · split
      · split
        · exact ord_up hl rfl
        · exact ⟨by simp, by simp, by simp, fun _ _ => hl, fun _ => hl, fun _ => hb⟩
      · split
        · exact ⟨by simp, by simp, by simp, fun _ _ => hl, fun _ => hl, fun _ => hb⟩
        · split
          · exact ⟨by simp, by simp, by simp, fun _ _ => hl, fun _ => hl, fun _ => hb⟩
          · exact ord_up hl rfl
theorem line_ord {s : Pr} (t : Bs) (h : s.Ord) (hm : s.mode ≤ 3) (hl : 1 ≤ s.left) : (lineP s t).Ord := by
  have hc := h.cont hm
  have hb := h.msgb (by omega)
  unfold lineP
  split
  · split
    · exact ⟨fun _ => h.flds (by omega), fun _ => hc, fun _ _ => h.kind (by omega) (by omega), fun _ _ => hl, fun _ => hl, fun _ => hb⟩
    · unfold reqP; split
      · exact ⟨by simp, fun _ => hc, fun _ _ => h.kind (by omega) (by omega), fun _ _ => hl, fun _ => hl, fun _ => ⟨rfl, rfl⟩⟩
      · exact ord_up hl rfl
  · split
    · unfold reqP; split
      · exact ⟨by simp, fun _ => hc, fun _ _ => h.kind (by omega) (by omega), fun _ _ => hl, fun _ => hl, fun _ => ⟨rfl, rfl⟩⟩
      · exact ord_up hl rfl
    · split
      · unfold staP; split
        · exact ⟨by simp, fun _ => hc, fun _ _ => h.kind (by omega) (by omega), fun _ _ => hl, fun _ => hl, fun _ => ⟨rfl, rfl⟩⟩
        · exact ord_up hl rfl
      · split
        · exact headEnd_ord h (by omega) hl
        · unfold fldP; split
          · split
            · exact ord_up hl rfl
            · exact ⟨fun e => absurd (show s.mode ≤ 2 from e) (by omega), fun _ => hc, fun _ _ => h.kind (by omega) (by omega), fun _ _ => hl, fun _ => hl, fun _ => hb⟩
          · exact ord_up hl rfl
theorem stepP_ord (s : Pr) (c : UInt8) (h : s.Ord) : (stepP s c).Ord := by
  have hl : 1 ≤ (s.ate 1).left := by simp [Pr.ate]
  unfold stepP stepQ
  split
  · rename_i hm
    have hc := h.cont hm
    have hb := h.msgb (by omega)
    have hp : ((s.put c).ate 1).Ord := ⟨h.flds, h.cont, h.kind, fun _ _ => hl, fun _ => hl, h.msgb⟩
    split
    · exact hp
    · split
      · rw [← lineP_ate]
        exact line_ord _ (s := Pr.ate { s with line := [], head := s.head + 1 } 1) ⟨h.flds, h.cont, h.kind, fun _ _ => hl, fun _ => hl, h.msgb⟩ hm hl
      · split
        · exact ord_up hl rfl
        · exact ⟨h.flds, h.cont, h.kind, fun _ _ => hl, fun _ => hl, h.msgb⟩
  · split
    · have hb := h.msgb (by omega)
      unfold countP; split
      · exact ⟨fun e => absurd (show s.mode ≤ 2 from e) (by omega), fun e => absurd (show s.mode ≤ 3 from e) (by omega), h.kind, fun _ _ => hl, fun _ => hl, fun _ => hb⟩
      · exact ord_up hl rfl
    · split
      · have hb := h.msgb (by omega)
        split
        · exact ord_up hl rfl
        · exact ⟨fun e => absurd (show s.mode ≤ 2 from e) (by omega), fun e => absurd (show s.mode ≤ 3 from e) (by omega), h.kind, fun _ _ => hl, fun _ => hl, fun _ => hb⟩
      · split
        · have hb := h.msgb (by omega)
          unfold chunkP; split
          · exact ord_up hl rfl
          · split
            · exact ord_up hl rfl
            · exact ⟨fun e => absurd (show s.mode ≤ 2 from e) (by omega), fun e => absurd (show s.mode ≤ 3 from e) (by omega), h.kind, fun _ _ => hl, fun _ => hl, fun _ => hb⟩
        · exact ⟨fun e => absurd (show s.mode ≤ 2 from e) (by omega), fun e => absurd (show s.mode ≤ 3 from e) (by omega), h.kind, fun _ _ => hl, fun _ => hl, h.msgb⟩
/-- the limits, the kind and the methods of a parser -/
def Pr.lims (s : Pr) : Nat × Nat × Nat × Nat × Bool × List Bs := (s.L, s.H, s.C, s.M, s.rsp, s.asked)
theorem lims_ite (p : Prop) [Decidable p] (a b : Pr) (x : Nat × Nat × Nat × Nat × Bool × List Bs) (h1 : a.lims = x) (h2 : b.lims = x) : (if p then a else b).lims = x := by split <;> assumption
theorem lineP_lims (s : Pr) (t : Bs) : (lineP s t).lims = s.lims := by
  unfold lineP reqP staP fldP headEndP
  repeat' (first | apply lims_ite | rfl)
theorem stepP_lims (s : Pr) (c : UInt8) : (stepP s c).lims = s.lims := by
  have e : ∀ x : Pr, (x.ate 1).lims = x.lims := fun _ => rfl
  unfold stepP
  rw [e]
  unfold stepQ countP chunkP
  repeat' (first | apply lims_ite | rfl | exact (lineP_lims _ _).trans rfl)
theorem stepP_lim (s : Pr) (c : UInt8) : (stepP s c).L = s.L ∧ (stepP s c).H = s.H ∧ (stepP s c).C = s.C ∧ (stepP s c).M = s.M ∧ (stepP s c).rsp = s.rsp ∧ (stepP s c).asked = s.asked := by
  have := stepP_lims s c
  unfold Pr.lims at this
  simp only [Prod.mk.injEq] at this
  exact this

/-- what is true of a parser that is fed -/
structure Pr.Ok (s : Pr) (n : Nat) : Prop where
  fit : s.Fit n
  ord : s.Ord
  lim : LimP s
theorem Pr.Ok.mono {s : Pr} {n m : Nat} (h : s.Ok n) (hm : n ≤ m) : s.Ok m := ⟨h.fit.mono hm, h.ord, h.lim⟩
theorem stepP_ok {s : Pr} {n : Nat} (c : UInt8) (h : s.Ok n) : (stepP s c).Ok (n + 1) := by
  obtain ⟨a1, a2, a3, a4, _⟩ := stepP_lim s c
  refine ⟨stepP_fit s c n h.fit h.ord, stepP_ord s c h.ord, ?_⟩
  have := h.lim
  unfold LimP at *
  rw [a1, a2, a3, a4]; exact this
theorem feedP_ok : ∀ (l : Bs) (s : Pr) (n : Nat), s.Ok n → (feedP s l).2.Ok (n + (feedP s l).1)
  | [], s, n, h => h
  | c :: t, s, n, h => by
    cases hs : stopP s
    · rw [feedP_cons s c t hs]
      have := feedP_ok t _ _ (stepP_ok c h)
      exact this.mono (by show _ ≤ n + ((feedP (stepP s c) t).1 + 1); omega)
    · rw [feedP_stop s _ hs]; exact h
theorem feedP_lim : ∀ (l : Bs) (s : Pr), (feedP s l).2.L = s.L ∧ (feedP s l).2.H = s.H ∧ (feedP s l).2.C = s.C ∧ (feedP s l).2.M = s.M ∧ (feedP s l).2.rsp = s.rsp ∧ (feedP s l).2.asked = s.asked
  | [], s => ⟨rfl, rfl, rfl, rfl, rfl, rfl⟩
  | c :: t, s => by
    cases hs : stopP s
    · rw [feedP_cons s c t hs]
      obtain ⟨a1, a2, a3, a4, a5, a6⟩ := feedP_lim t (stepP s c)
      obtain ⟨b1, b2, b3, b4, b5, b6⟩ := stepP_lim s c
      exact ⟨a1.trans b1, a2.trans b2, a3.trans b3, a4.trans b4, a5.trans b5, a6.trans b6⟩
    · rw [feedP_stop s _ hs]; exact ⟨rfl, rfl, rfl, rfl, rfl, rfl⟩
theorem EatsP.ok {s s' : Pr} {a : Bs} {n : Nat} (h : EatsP s a s') (hs : s.Ok n) : s'.Ok (n + a.length) := by
  have := feedP_ok a s n hs
  unfold EatsP at h
  rw [h] at this
  exact this
theorem fresh_ok {s : Pr} (h : LimP s) : s.fresh.Ok 0 := by
  refine ⟨⟨?_, ?_, ?_, ?_, ?_, ?_, ?_, ?_, ?_, ?_, ?_, ?_, ?_, ?_, ?_, ?_, ?_⟩, ⟨?_, ?_, ?_, ?_, ?_, ?_⟩, h⟩
  all_goals (unfold Pr.fresh; cases s.rsp <;> simp [newD_fit, sumF, stopD])
theorem new_ok (L H C M : Nat) (r : Bool) (h : LimP (newP L H C M r)) : (newP L H C M r).Ok 0 := by
  refine ⟨⟨?_, ?_, ?_, ?_, ?_, ?_, ?_, ?_, ?_, ?_, ?_, ?_, ?_, ?_, ?_, ?_, ?_⟩, ⟨?_, ?_, ?_, ?_, ?_, ?_⟩, h⟩
  all_goals (unfold newP; cases r <;> simp [newD_fit, sumF, stopD])

/-- it does not wait -/
def Run (s : Pr) : Prop := waitP s = false
theorem run_fresh (s : Pr) : Run s.fresh := by unfold Run waitP Pr.fresh; cases s.rsp <;> simp
theorem run_new (L H C M : Nat) (r : Bool) : Run (newP L H C M r) := by unfold Run waitP newP; cases r <;> simp
theorem take_run (s : Pr) : Run (takeP s).2 := by
  unfold takeP; split
  · exact run_fresh s
  · rename_i h; unfold Run; simpa using h
theorem take_ok {s : Pr} {n : Nat} (h : s.Ok n) : (takeP s).2.Ok n := by
  unfold takeP; split
  · exact (fresh_ok h.lim).mono (Nat.zero_le _)
  · exact h
theorem take_rsp (s : Pr) : (takeP s).2.rsp = s.rsp := by unfold takeP; split <;> rfl
theorem take_lim (s : Pr) : (takeP s).2.L = s.L ∧ (takeP s).2.H = s.H ∧ (takeP s).2.C = s.C ∧ (takeP s).2.M = s.M := by unfold takeP; split <;> exact ⟨rfl, rfl, rfl, rfl⟩
theorem run_stop {s : Pr} (h : Run s) (hr : s.rsp = false) : stopP s = decide (s.bad ≠ 0) := by
  unfold Run waitP at h
  unfold stopP
  rw [hr]
  by_cases hb : s.bad = 0
  · simp [hb] at h ⊢; exact h
  · simp [hb]

/-- a part more is fed, and what waits is taken -/
theorem go_part {s0 sp : Pr} {ms : List Msg} {b : Bs} {i k : Nat} (h : goP s0 (b.take i) = (ms, sp)) (hs : stopP sp = false) (hi : i < k) (hk : k ≤ b.length) :
    goP s0 (b.take (i + (feedP sp ((b.drop i).take (k - i))).1)) = (ms ++ (takeP (feedP sp ((b.drop i).take (k - i))).2).1, (takeP (feedP sp ((b.drop i).take (k - i))).2).2) ∧ 1 ≤ (feedP sp ((b.drop i).take (k - i))).1 ∧ i + (feedP sp ((b.drop i).take (k - i))).1 ≤ k := by
  have hl : ((b.drop i).take (k - i)).length = k - i := by simp; omega
  have hne : (b.drop i).take (k - i) ≠ [] := by intro e; rw [e] at hl; simp at hl; omega
  have h1 := feedP_pos _ sp hs hne
  have h2 := feedP_le ((b.drop i).take (k - i)) sp
  have h3 := goP_feed _ sp hs hne
  rw [hl] at h2
  refine ⟨?_, h1, by omega⟩
  rw [List.take_take, Nat.min_eq_left h2] at h3
  rw [List.take_add, goP_append, h]
  simp only [h3]
theorem go_ok : ∀ (l : Bs) (s : Pr) (n : Nat), s.Ok n → (goP s l).2.Ok (n + l.length)
  | [], s, n, h => h
  | c :: t, s, n, h => by
    cases hs : stopP s
    · rw [goP_cons s c t hs]
      have h1 := stepP_ok c h
      split
      · have := go_ok t _ 0 (fresh_ok h1.lim)
        exact this.mono (by simp; omega)
      · have := go_ok t _ _ h1
        exact this.mono (by simp; omega)
    · rw [goP_stop s _ hs]; exact h.mono (by simp)
theorem go_rsp : ∀ (l : Bs) (s : Pr), (goP s l).2.rsp = s.rsp
  | [], s => rfl
  | c :: t, s => by
    cases hs : stopP s
    · rw [goP_cons s c t hs]
      obtain ⟨_, _, _, _, b5, _⟩ := stepP_lim s c
      split
      · exact (go_rsp t _).trans b5
      · exact (go_rsp t _).trans b5
    · rw [goP_stop s _ hs]
theorem end_bad {s : Pr} (h : s.bad ≠ 0) : endP s = s := by
  unfold endP conP; simp [h]
theorem end_two {s : Pr} (h : s.bad = 0) : (endP s).bad = 0 ∨ (endP s).bad = 400 := by
  unfold endP
  split
  · exact .inl h
  · split
    · exact .inr rfl
    · exact .inl h
/-- how the bytes were divided does not matter -/
theorem all_of {s0 sp : Pr} {ms : List Msg} {b : Bs} {i : Nat} (h : goP s0 (b.take i) = (ms, sp)) (he : stopP sp = true ∨ b.length ≤ i) : allM s0 b = ms ∧ allS s0 b = (endP sp).bad := by
  have hg : goP s0 b = (ms, sp) := by
    rcases he with he | he
    · have := goP_append (b.take i) s0 (b.drop i)
      rw [List.take_append_drop, h] at this
      simp only [goP_stop sp _ he, List.append_nil] at this
      exact this
    · rw [List.take_of_length_le he] at h; exact h
  unfold allM allS
  rw [hg]; exact ⟨rfl, rfl⟩
/-- the first part's messages are the first messages; its status -/
theorem all_part (s0 : Pr) (a b : Bs) : (∃ ms, allM s0 (a ++ b) = allM s0 a ++ ms) ∧ (allS s0 a = 0 ∨ allS s0 a = 400 ∨ allS s0 a = allS s0 (a ++ b)) := by
  have h := goP_append a s0 b
  refine ⟨⟨(goP (goP s0 a).2 b).1, by unfold allM; rw [h]⟩, ?_⟩
  unfold allS
  rw [h]
  by_cases hb : (goP s0 a).2.bad = 0
  · rcases end_two hb with h1 | h1
    · exact .inl h1
    · exact .inr (.inl h1)
  · right; right
    have hs : stopP (goP s0 a).2 = true := by unfold stopP; simp [hb]
    simp only [goP_stop _ _ hs]

/-- what is true of each message that was eaten -/
structure Msg.Fit (m : Msg) (n : Nat) : Prop where
  sum : sumF m.f ≤ 2 * n
  txt : m.m.length ≤ n ∧ m.t.length ≤ n ∧ m.r.length ≤ n ∧ m.body.length ≤ n
  trl : m.tr.length ≤ n ∧ ∀ f ∈ m.tr, f.1.length ≤ n ∧ f.2.length ≤ n
  num : m.mi ≤ 1 ∧ m.st ≤ 599
theorem Msg.Fit.mono {m : Msg} {n k : Nat} (h : m.Fit n) (hk : n ≤ k) : m.Fit k := by
  obtain ⟨h1, ⟨h2, h3, h4, h5⟩, ⟨h6, h7⟩, h8⟩ := h
  exact ⟨by omega, ⟨by omega, by omega, by omega, by omega⟩, ⟨by omega, fun f hf => ⟨Nat.le_trans (h7 f hf).1 hk, Nat.le_trans (h7 f hf).2 hk⟩⟩, h8⟩
theorem Pr.Fit.msg {s : Pr} {n : Nat} (h : s.Fit n) : s.msg.Fit n := by
  have h1 := h.left
  have h2 := h.head
  have h3 := h.sum
  obtain ⟨a1, a2, a3, a4⟩ := h.txt
  obtain ⟨b1, b2⟩ := h.trl
  exact ⟨by omega, ⟨by omega, by omega, by omega, by omega⟩, ⟨by omega, fun f hf => ⟨Nat.le_trans (b2 f hf).1 h1, Nat.le_trans (b2 f hf).2 h1⟩⟩, h.num⟩
theorem go_msgs : ∀ (l : Bs) (s : Pr) (n : Nat), s.Ok n → ∀ m ∈ (goP s l).1, m.Fit (n + l.length)
  | [], s, n, h, m, hm => by simp [goP] at hm
  | c :: t, s, n, h, m, hm => by
    cases hs : stopP s
    · rw [goP_cons s c t hs] at hm
      have h1 := stepP_ok c h
      split at hm
      · rcases List.mem_cons.1 hm with rfl | hm
        · exact h1.fit.msg.mono (by simp only [List.length_cons]; omega)
        · exact (go_msgs t _ 0 (fresh_ok h1.lim) m hm).mono (by simp only [List.length_cons]; omega)
      · exact (go_msgs t _ _ h1 m hm).mono (by simp; omega)
    · rw [goP_stop s _ hs] at hm; simp at hm
theorem go_few : ∀ (l : Bs) (s : Pr), (goP s l).1.length ≤ l.length
  | [], s => by simp [goP]
  | c :: t, s => by
    cases hs : stopP s
    · rw [goP_cons s c t hs]
      split
      · have := go_few t (stepP s c).fresh; simp; omega
      · have := go_few t (stepP s c); simp; omega
    · rw [goP_stop s _ hs]; simp
end Tk
end Go.Proofs.YtpcdaaijlgilkaaGreatDoor
namespace Go.Proofs.YtpcdaaijlgilkaaGreatDoor
namespace Tk

/-- a parser of requests: what is within its limits -/
structure PG (s : Pr) : Prop where
  rq : s.rsp = false
  f : s.msg.f.length ≤ s.C
  t : s.msg.t.length ≤ s.L
  line : s.bad = 0 → s.line.length ≤ s.L
  host : 4 ≤ s.mode → s.bad = 0 → hostFit s.msg = true
  st : s.msg.st = 0
  tr : s.msg.tr.length ≤ s.C
  body : s.msg.body.length ≤ s.M
  dtr : s.mode = 6 → s.dc.trl.length ≤ s.C
/-- a request within its limits -/
structure Good (L C M : Nat) (m : Msg) : Prop where
  f : m.f.length ≤ C
  tr : m.tr.length ≤ C
  body : m.body.length ≤ M
  t : m.t.length ≤ L
  host : (allF m.f nmHost).length ≤ 1 ∧ ((allF m.f nmHost).length = 0 → m.mi = 0)
  st : m.st = 0
  mi : m.mi ≤ 1

theorem pg_flaw {s : Pr} {k : Nat} (h : PG s) (hk : k ≠ 0) : PG (s.fl k) :=
  ⟨h.rq, h.f, h.t, fun e => absurd (show k = 0 from e) hk, fun _ e => absurd (show k = 0 from e) hk, h.st, h.tr, h.body, fun e => absurd (show (7 : Nat) = 6 from e) (by omega)⟩
theorem pg_ate {s : Pr} (k : Nat) (h : PG s) : PG (s.ate k) := ⟨h.rq, h.f, h.t, h.line, h.host, h.st, h.tr, h.body, h.dtr⟩
theorem pg_headEnd {s : Pr} (h : PG s) (hb : s.bad = 0) : PG (headEndP s) := by
  have hl := h.line hb
  have hx : (!s.rsp && !hostFit s.msg) = !hostFit s.msg := by rw [h.rq]; rfl
  unfold headEndP
  rw [hx]
  by_cases hf : hostFit s.msg = true
  · rw [hf, if_neg (by simp)]
    split
    · rename_i h0; exact pg_flaw h h0
    · split
      · split
        · exact ⟨h.rq, h.f, h.t, fun e => absurd (show (413 : Nat) = 0 from e) (by omega), fun _ _ => hf, h.st, h.tr, h.body, fun e => absurd (show (7 : Nat) = 6 from e) (by omega)⟩
        · exact ⟨h.rq, h.f, h.t, fun _ => hl, fun _ _ => hf, h.st, h.tr, h.body, fun e => absurd (show (4 : Nat) = 6 from e) (by omega)⟩
      · split
        · exact ⟨h.rq, h.f, h.t, fun _ => hl, fun _ _ => hf, h.st, h.tr, h.body, fun _ => Nat.zero_le _⟩
        · split
          · exact ⟨h.rq, h.f, h.t, fun _ => hl, fun _ _ => hf, h.st, h.tr, h.body, fun e => absurd (show (5 : Nat) = 6 from e) (by omega)⟩
          · exact ⟨h.rq, h.f, h.t, fun _ => hl, fun _ _ => hf, h.st, h.tr, h.body, fun e => absurd (show (7 : Nat) = 6 from e) (by omega)⟩
  · have hf : hostFit s.msg = false := by simpa using hf
    rw [hf, if_pos (by rfl)]
    exact pg_flaw h (by omega)
theorem pg_req {s : Pr} (t : Bs) (h : PG s) (ht : t.length ≤ s.L) : PG (reqP s t) := by
  have hl := (req_lens t).2.1
  unfold reqP
  split
  · exact ⟨h.rq, Nat.zero_le _, Nat.le_trans hl ht, h.line, fun e => absurd (show (4 : Nat) ≤ 3 from e) (by omega), rfl, Nat.zero_le _, Nat.zero_le _, fun e => absurd (show (3 : Nat) = 6 from e) (by omega)⟩
  · rename_i h0; exact pg_flaw h h0
theorem pg_line {s : Pr} (t : Bs) (h : PG s) (hb : s.bad = 0) (hm : s.mode ≤ 3) (hm2 : s.mode ≠ 2) (ht : t.length ≤ s.L) : PG (lineP s t) := by
  unfold lineP
  split
  · split
    · exact ⟨h.rq, h.f, h.t, h.line, fun e => absurd (show (4 : Nat) ≤ 1 from e) (by omega), h.st, h.tr, h.body, fun e => absurd (show (1 : Nat) = 6 from e) (by omega)⟩
    · exact pg_req t h ht
  · split
    · exact pg_req t h ht
    · show PG (if t = [] then headEndP s else fldP s t)
      · split
        · exact pg_headEnd h hb
        · unfold fldP; split
          · split
            · exact pg_flaw h (by omega)
            · rename_i hc
              exact ⟨h.rq, by show (s.msg.f ++ [(lineN t, lineV t)]).length ≤ s.C; simp; omega, h.t, h.line, fun e => absurd (show 4 ≤ s.mode from e) (by omega), h.st, h.tr, h.body, h.dtr⟩
          · exact pg_flaw h (by omega)
theorem stepD_trl (s : Dc) (c : UInt8) (h : s.trl.length ≤ s.C) : (stepD s c).trl.length ≤ s.C := by
  have ht : ∀ (x : Dc) (t : Bs), x.trl.length ≤ x.C → (trailD x t).trl.length ≤ x.C := by
    intro x t hx
    unfold trailD
    split
    · exact hx
    · split
      · split
        · exact hx
        · rename_i hc; show (x.trl ++ [(lineN t, lineV t)]).length ≤ x.C; simp; omega
      · exact hx
  have hz : ∀ (x : Dc) (t : Bs), (sizedD x t).trl = x.trl := by
    intro x t; unfold sizedD; repeat' split
    all_goals rfl
  unfold stepD
  split
  · split
    · exact h
    · rw [hz]; exact h
    · exact h
  · split <;> exact h
  · split <;> exact h
  · split <;> exact h
  · split
    · split <;> exact h
    · split
      · exact h
      · exact ht { s with head := s.head + 1, line := [] } (txt s) h
    · exact h
  · exact h
theorem stepP_pg {s : Pr} {n : Nat} (c : UInt8) (h : PG s) (ho : s.Ok n) (hb : s.bad = 0) (hm2 : s.mode ≠ 2) : PG (stepP s c) := by
  have hd := stepD_fit s.dc c s.left ho.fit.dc
  have hl := h.line hb
  unfold stepP stepQ
  apply pg_ate
  split
  · rename_i hm
    have hp : ∀ k, addQ s c = 0 ∨ k ≠ 0 → PG { s.put c with bad := k } := by
      intro k hk
      refine ⟨h.rq, h.f, h.t, fun e => ?_, fun e => absurd (show 4 ≤ s.mode from e) (by omega), h.st, h.tr, h.body, h.dtr⟩
      rcases hk with hk | hk
      · show (s.line ++ [c]).length ≤ s.L
        unfold addQ at hk
        split at hk
        · omega
        · rename_i hq
          by_cases hlen : s.L ≤ s.line.length + 1
          · have : (cr s.line && decide (c = 10)) = true := by
              cases hx : (cr s.line && decide (c = 10))
              · rw [hx] at hq; simp [hlen] at hq
              · rfl
            rw [Bool.and_eq_true] at this
            rw [this.1, this.2] at hk
            simp at hk
            split at hk <;> omega
          · simp; omega
      · exact absurd (show k = 0 from e) hk
    split
    · rename_i h0
      have := hp 0 (.inl h0)
      have e : ({ s.put c with bad := 0 } : Pr) = s.put c := by unfold Pr.put; rw [hb]
      rw [e] at this; exact this
    · split
      · refine pg_line _ (s := { s with line := [], head := s.head + 1 }) ⟨h.rq, h.f, h.t, fun _ => Nat.zero_le _, h.host, h.st, h.tr, h.body, h.dtr⟩ hb hm hm2 ?_
        show s.line.dropLast.length ≤ s.L
        simp; omega
      · split
        · exact ⟨h.rq, h.f, h.t, fun e => absurd (show (431 : Nat) = 0 from e) (by omega), fun _ e => absurd (show (431 : Nat) = 0 from e) (by omega), h.st, h.tr, h.body, fun e => absurd (show (7 : Nat) = 6 from e) (by omega)⟩
        · exact hp 400 (.inr (by omega))
  · split
    · rename_i _ hm
      have hc := ho.fit.cnt hm
      unfold countP
      split
      · exact ⟨h.rq, h.f, h.t, h.line, h.host, h.st, h.tr, h.body, h.dtr⟩
      · exact ⟨h.rq, h.f, h.t, h.line, fun _ _ => h.host (by omega) hb, h.st, h.tr, by show (s.body ++ [c]).length ≤ s.M; simp; omega, fun e => absurd (show (7 : Nat) = 6 from e) (by omega)⟩
    · split
      · split
        · exact pg_flaw h (by omega)
        · exact ⟨h.rq, h.f, h.t, h.line, h.host, h.st, h.tr, h.body, h.dtr⟩
      · split
        · rename_i _ _ _ hm
          have hdl := ho.fit.dlim hm
          have hdl2 := stepD_lim s.dc c
          have h1 := h.dtr hm
          have h2 := stepD_trl s.dc c (by rw [hdl.2.2.1]; exact h1)
          rw [hdl.2.2.1] at h2
          have hr := hd.room
          rw [hdl2.2.2.2, hdl.2.2.2] at hr
          unfold chunkP
          split
          · rename_i hz
            exact ⟨h.rq, h.f, h.t, fun e => absurd (show (stepD s.dc c).bad = 0 from e) hz, fun _ e => absurd (show (stepD s.dc c).bad = 0 from e) hz, h.st, h.tr, h.body, fun e => absurd (show (7 : Nat) = 6 from e) (by omega)⟩
          · split
            · exact ⟨h.rq, h.f, h.t, h.line, fun _ _ => h.host (by omega) hb, h.st, h2, by show (stepD s.dc c).body.length ≤ s.M; omega, fun e => absurd (show (7 : Nat) = 6 from e) (by omega)⟩
            · exact ⟨h.rq, h.f, h.t, h.line, h.host, h.st, h.tr, h.body, fun _ => h2⟩
        · exact h
theorem hostFit_of {m : Msg} (h : hostFit m = true) : (allF m.f nmHost).length ≤ 1 ∧ ((allF m.f nmHost).length = 0 → m.mi = 0) := by
  unfold hostFit at h
  split at h
  · rename_i h0
    exact ⟨by omega, fun _ => by simpa using h⟩
  · rename_i h0
    simp only [Bool.and_eq_true, decide_eq_true_eq] at h
    exact ⟨by omega, fun e => absurd e h0⟩
theorem lineP_m2 {s : Pr} (t : Bs) (hm2 : s.mode ≠ 2) : (lineP s t).mode ≠ 2 := by
  have hh := headEnd_mode s
  unfold lineP
  repeat' split
  · simp
  · unfold reqP Pr.fl; split <;> simp
  · unfold reqP Pr.fl; split <;> simp
  · omega
  · unfold fldP Pr.fl; repeat' split
    · simp
    · exact hm2
    · simp
theorem stepP_m2 {s : Pr} (c : UInt8) (hm2 : s.mode ≠ 2) : (stepP s c).mode ≠ 2 := by
  unfold stepP stepQ
  show (if _ then _ else _ : Pr).mode ≠ 2
  split
  · split
    · exact hm2
    · split
      · exact lineP_m2 (s := { s with line := [], head := s.head + 1 }) _ hm2
      · split
        · simp [Pr.fl]
        · exact hm2
  · split
    · unfold countP; split
      · exact hm2
      · simp
    · split
      · split
        · simp [Pr.fl]
        · exact hm2
      · split
        · unfold chunkP; repeat' split
          · simp
          · simp
          · exact hm2
        · exact hm2
theorem fresh_m2 {s : Pr} (h : s.rsp = false) : s.fresh.mode ≠ 2 := by unfold Pr.fresh; rw [h]; simp
theorem fresh_pg {s : Pr} (h : s.rsp = false) : PG s.fresh := by
  refine ⟨h, ?_, ?_, ?_, ?_, ?_, ?_, ?_, ?_⟩ <;> (unfold Pr.fresh; simp [h])
theorem new_pg (L H C M : Nat) : PG (newP L H C M false) := by
  refine ⟨rfl, ?_, ?_, ?_, ?_, ?_, ?_, ?_, ?_⟩ <;> (unfold newP; simp)
theorem go_good : ∀ (l : Bs) (s : Pr) (n : Nat), s.Ok n → PG s → s.mode ≠ 2 → ∀ m ∈ (goP s l).1, Good s.L s.C s.M m
  | [], s, n, _, _, _, m, hm => by simp [goP] at hm
  | c :: t, s, n, h, hg, h2, m, hm => by
    cases hs : stopP s
    · rw [goP_cons s c t hs] at hm
      have h1 := stepP_ok c h
      have hb := (not_stop hs).2.1
      have hg1 := stepP_pg c hg h hb h2
      have hm1 := stepP_m2 c h2
      obtain ⟨a1, a2, a3, a4, a5, a6⟩ := stepP_lim s c
      split at hm
      · rename_i hw
        rcases List.mem_cons.1 hm with rfl | hm
        · unfold waitP at hw
          simp only [Bool.and_eq_true, decide_eq_true_eq] at hw
          have hh := hostFit_of (hg1.host (by omega) hw.2)
          rw [← a1, ← a3, ← a4]
          exact ⟨hg1.f, hg1.tr, hg1.body, hg1.t, hh, hg1.st, h1.fit.num.1⟩
        · have := go_good t _ 0 (fresh_ok h1.lim) (fresh_pg (a5.trans hg.rq)) (fresh_m2 (a5.trans hg.rq)) m hm
          rw [← a1, ← a3, ← a4]
          exact this
      · have := go_good t _ _ h1 hg1 hm1 m hm
        rw [← a1, ← a3, ← a4]
        exact this
    · rw [goP_stop s _ hs] at hm; simp at hm
theorem all_status {s : Pr} {n : Nat} (l : Bs) (h : s.Ok n) : allS s l = 0 ∨ allS s l = 400 ∨ allS s l = 413 ∨ allS s l = 431 ∨ allS s l = 501 ∨ allS s l = 505 := by
  have hf := (go_ok l s n h).fit.bad
  unfold allS
  by_cases hb : (goP s l).2.bad = 0
  · rcases end_two hb with h1 | h1 <;> omega
  · rw [end_bad hb]; exact hf
end Tk
end Go.Proofs.YtpcdaaijlgilkaaGreatDoor
