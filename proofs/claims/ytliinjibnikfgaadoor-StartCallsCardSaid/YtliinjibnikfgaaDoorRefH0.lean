/- The document's own hosts: plain facts. -/
import Derived.Test.YtliinjibnikfgaaDoorSta1
namespace Go.Proofs.YtliinjibnikfgaaDoor
namespace Tk

/-- how long a host's name is; -1: it is none -/
def adLen (l : Bs) : Nat := ((l.drop 1).takeWhile inAddr).length
def nmLen (l : Bs) : Nat := (l.takeWhile inName).length
def nmI (l : Bs) : Int := if l.head? = some 91 then (if adLen l = 0 ∨ adLen l + 1 = l.length ∨ l.getD (adLen l + 1) 0 ≠ 93 then -1 else (adLen l : Int) + 2) else (if nmLen l = 0 then -1 else (nmLen l : Int))
/-- how many digits there are behind a name; -1: it is no host -/
def ptI (l : Bs) : Int :=
  if nmI l < 0 then -1 else if nmI l = l.length then 0
  else if l.getD (nmI l).toNat 0 ≠ 58 ∨ 5 < l.length - (nmI l).toNat - 1 then -1
  else if (l.drop ((nmI l).toNat + 1)).all isDig then ((l.length - (nmI l).toNat - 1 : Nat) : Int) else -1

theorem takeWhile_stop (p : UInt8 → Bool) (a : Bs) (c : UInt8) (t : Bs) (ha : a.all p = true) (hc : p c = false) : (a ++ c :: t).takeWhile p = a := by
  rw [List.takeWhile_append_of_pos (fun x hx => List.all_eq_true.1 ha x hx), List.takeWhile_cons, hc]; simp
theorem takeWhile_whole (p : UInt8 → Bool) (a : Bs) (ha : a.all p = true) : a.takeWhile p = a := by
  have := List.takeWhile_append_of_pos (p := p) (l₁ := a) (l₂ := []) (fun x hx => List.all_eq_true.1 ha x hx)
  simpa using this
theorem takeWhile_pre (p : UInt8 → Bool) : ∀ l : Bs, l = l.takeWhile p ++ l.drop (l.takeWhile p).length
  | [] => rfl
  | c :: t => by
    rw [List.takeWhile_cons]
    split
    · rw [List.cons_append, List.length_cons, List.drop_succ_cons, ← takeWhile_pre p t]
    · simp
theorem takeWhile_all (p : UInt8 → Bool) (l : Bs) : (l.takeWhile p).all p = true := by
  rw [List.all_eq_true]; exact fun x hx => mem_takeWhile_of p l x hx
theorem some_of {p : UInt8 → Bool} {l : Bs} (h1 : l ≠ []) (h2 : l.all p = true) : someL p l = true := by
  unfold someL; rw [h2]; cases l <;> simp at *
theorem some_ne {p : UInt8 → Bool} {l : Bs} (h : someL p l = true) : l ≠ [] := by
  intro e; subst e; exact absurd h (by simp [someL])

theorem nm_of {l n q : Bs} {f : Bool} (h : HostG l n q f) : nmI l = n.length := by
  obtain ⟨rfl, hf, hn, hq⟩ := h
  rcases name_form n hn with ⟨h91, hi⟩ | ⟨a, rfl, ha⟩
  · have hne := some_ne hi
    have hall := someL_all hi
    have hh : (n ++ (if f then 58 :: q else [])).head? = n.head? := by
      cases n with
      | nil => exact absurd rfl hne
      | cons c t => rfl
    have ht : (n ++ (if f then 58 :: q else [])).takeWhile inName = n := by
      cases f
      · rw [if_neg (by simp), List.append_nil, takeWhile_whole inName n hall]
      · rw [if_pos rfl, takeWhile_stop inName n 58 q hall (by decide)]
    have hlen : nmLen (n ++ (if f then 58 :: q else [])) = n.length := by unfold nmLen; rw [ht]
    unfold nmI
    rw [hh, if_neg h91, hlen, if_neg (by rw [List.length_eq_zero_iff]; exact hne)]
  · have hne := some_ne ha
    have hall := someL_all ha
    have e : 91 :: (a ++ [93]) ++ (if f then 58 :: q else [] : Bs) = 91 :: (a ++ 93 :: (if f then 58 :: q else [])) := by simp
    rw [e]
    have hlen : adLen (91 :: (a ++ 93 :: (if f then 58 :: q else []))) = a.length := by
      unfold adLen
      rw [List.drop_succ_cons, List.drop_zero, takeWhile_stop inAddr a 93 _ hall (by decide)]
    have hg : (91 :: (a ++ 93 :: (if f then 58 :: q else [])) : Bs).getD (a.length + 1) 0 = 93 := by
      rw [List.getD_cons_succ]
      simp [List.getD]
    unfold nmI
    rw [if_pos (show (91 :: (a ++ 93 :: (if f then 58 :: q else [])) : Bs).head? = some 91 from rfl), hlen, hg, if_neg]
    · simp; omega
    · rintro (h | h | h)
      · exact hne (List.length_eq_zero_iff.1 h)
      · simp at h
      · exact h rfl
theorem pt_of {l n q : Bs} {f : Bool} (h : HostG l n q f) : ptI l = q.length := by
  have hn := nm_of h
  obtain ⟨hl, hf, hno, hq⟩ := h
  unfold ptI
  rw [hn, if_neg (by omega), Int.toNat_natCast]
  cases f
  · rw [if_neg (by simp), List.append_nil] at hl
    rw [hl, if_pos rfl, hf rfl]; rfl
  · rw [if_pos rfl] at hl
    have hlen : l.length = n.length + (q.length + 1) := by rw [hl]; simp
    have hd : l.drop (n.length + 1) = q := by
      rw [hl, show n ++ 58 :: q = (n ++ [58]) ++ q by simp, show n.length + 1 = (n ++ [58]).length by simp, List.drop_left]
    have hg : l.getD n.length 0 = 58 := by rw [hl]; simp [List.getD]
    have hq5 : q.length ≤ 5 := by unfold portOk at hq; rw [Bool.and_eq_true, decide_eq_true_eq] at hq; exact hq.1
    rw [if_neg (by omega), hg, if_neg (by rintro (h | h); exact h rfl; omega), hd, port_dig hq, if_pos rfl]
    congr 1; omega
theorem nm_is (l : Bs) (h : 0 ≤ nmI l) : nameOk (l.take (nmI l).toNat) = true ∧ (nmI l).toNat ≤ l.length := by
  unfold nmI at h ⊢
  by_cases h91 : l.head? = some 91
  · rw [if_pos h91] at h ⊢
    split at h
    · omega
    · next hc =>
      rw [if_neg hc]
      match l, h91 with
      | c :: t, h91 =>
        have : c = 91 := by simpa using h91
        subst this
        have ht := takeWhile_pre inAddr t
        have hall := takeWhile_all inAddr t
        have hlen : adLen (91 :: t) = (t.takeWhile inAddr).length := by unfold adLen; rw [List.drop_succ_cons, List.drop_zero]
        rw [hlen] at hc ⊢
        generalize t.takeWhile inAddr = a at *
        have h1 : a.length ≠ 0 := fun e => hc (.inl e)
        have h2 : a.length + 1 ≠ (91 :: t : Bs).length := fun e => hc (.inr (.inl e))
        have h3 : (91 :: t : Bs).getD (a.length + 1) 0 = 93 := Classical.byContradiction fun e => hc (.inr (.inr e))
        rw [List.getD_cons_succ] at h3
        have hle : a.length ≤ t.length := by rw [ht]; simp
        have hlt : a.length < t.length := by simp at h2; omega
        have hd : t.drop a.length = 93 :: t.drop (a.length + 1) := by
          rw [drop_cons t a.length hlt, h3]
        rw [hd] at ht
        have e2 : ((a.length : Int) + 2).toNat = a.length + 2 := by omega
        rw [e2]
        have hk : (91 :: t : Bs).take (a.length + 2) = 91 :: (a ++ [93]) := by
          rw [show a.length + 2 = (a.length + 1) + 1 by omega, List.take_succ_cons]
          congr 1
          rw [ht, show a ++ 93 :: t.drop (a.length + 1) = (a ++ [93]) ++ t.drop (a.length + 1) by simp, show a.length + 1 = (a ++ [93]).length by simp, List.take_left]
        rw [hk]
        refine ⟨?_, by simp; omega⟩
        rw [name_br]
        exact some_of (fun e => h1 (by rw [e]; rfl)) hall
  · rw [if_neg h91] at h ⊢
    split at h
    · omega
    · next hc =>
      rw [if_neg hc]
      have ht := takeWhile_pre inName l
      have hall := takeWhile_all inName l
      unfold nmLen at hc ⊢
      have hk : l.take (l.takeWhile inName).length = l.takeWhile inName := by
        generalize l.takeWhile inName = a at *
        conv => lhs; rw [ht]
        exact List.take_left
      rw [Int.toNat_natCast, hk]
      refine ⟨?_, ?_⟩
      · rw [name_plain]
        · exact some_of (fun e => hc (by rw [e]; rfl)) hall
        · intro e
          cases l with
          | nil => simp at e
          | cons c t =>
            rw [List.takeWhile_cons] at e
            split at e
            · exact h91 e
            · simp at e
      · conv => rhs; rw [ht]
        simp
theorem pt_is (l : Bs) (h : 0 ≤ ptI l) : ∃ n q f, HostG l n q f := by
  have hn : 0 ≤ nmI l := by
    refine Classical.byContradiction fun hc => ?_
    unfold ptI at h
    rw [if_pos (by omega)] at h
    omega
  obtain ⟨h1, h2⟩ := nm_is l hn
  unfold ptI at h
  rw [if_neg (by omega)] at h
  obtain ⟨i, hi⟩ : ∃ i : Nat, nmI l = i := ⟨(nmI l).toNat, by omega⟩
  rw [hi, Int.toNat_natCast] at h h1 h2
  by_cases he : (i : Int) = l.length
  · refine ⟨l, [], false, by simp, fun _ => rfl, ?_, rfl⟩
    rw [List.take_of_length_le (by omega)] at h1
    exact h1
  · rw [if_neg he] at h
    split at h
    · omega
    · next hc =>
      split at h
      · next hd =>
        have hg : l.getD i 0 = 58 := Classical.byContradiction fun e => hc (.inl e)
        have h5 : ¬ 5 < l.length - i - 1 := fun e => hc (.inr e)
        refine ⟨l.take i, l.drop (i + 1), true, ?_, by simp, h1, ?_⟩
        · rw [if_pos rfl, ← hg, ← drop_cons l i (by omega), List.take_append_drop]
        · unfold portOk
          rw [hd, List.length_drop, decide_eq_true (by omega)]; rfl
      · omega
theorem host_pt (l : Bs) : hostL l = decide (0 ≤ ptI l) := by
  rw [Bool.eq_iff_iff, host_iff, decide_eq_true_eq]
  exact ⟨fun ⟨n, q, f, h⟩ => by rw [pt_of h]; omega, pt_is l⟩
theorem port_pt (l : Bs) : (hostP l ≠ [] ∧ hostL l = true) ↔ 1 ≤ ptI l := by
  constructor
  · rintro ⟨h1, h2⟩
    obtain ⟨f, h⟩ := host_is l h2
    rw [pt_of h]
    have : (hostP l).length ≠ 0 := fun e => h1 (List.length_eq_zero_iff.1 e)
    omega
  · intro h
    obtain ⟨n, q, f, hg⟩ := pt_is l (by omega)
    rw [pt_of hg] at h
    refine ⟨?_, host_of hg⟩
    rw [(host_cut hg).2]
    intro e
    rw [e] at h
    simp at h
end Tk
end Go.Proofs.YtliinjibnikfgaaDoor
