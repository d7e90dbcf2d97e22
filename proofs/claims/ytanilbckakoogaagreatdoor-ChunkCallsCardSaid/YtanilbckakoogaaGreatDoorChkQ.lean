/- Content in chunks: what is written is read again by the decoder (plain facts). -/
import Derived.Test.YtanilbckakoogaaGreatDoorChkP
namespace Go.Proofs.YtanilbckakoogaaGreatDoor
namespace Tk

def hexc (d : Nat) : UInt8 := if d < 10 then UInt8.ofNat (48 + d) else UInt8.ofNat (87 + d)
def hexC (d : Nat) : UInt8 := if d < 10 then UInt8.ofNat (48 + d) else UInt8.ofNat (55 + d)
/-- a number's digits by sixteen, with the digits f -/
def hexF (f : Nat → UInt8) (n : Nat) : Bs := if _h : n < 16 then [f n] else hexF f (n / 16) ++ [f (n % 16)]
abbrev hexL (n : Nat) : Bs := hexF hexc n
theorem hexF_small (f : Nat → UInt8) (n : Nat) (h : n < 16) : hexF f n = [f n] := by rw [hexF, dif_pos h]
theorem hexF_big (f : Nat → UInt8) (n : Nat) (h : ¬ n < 16) : hexF f n = hexF f (n / 16) ++ [f (n % 16)] := by rw [hexF, dif_neg h]
theorem hexD_c : ∀ d, d < 16 → hexD (hexc d) = some d := by decide
theorem hexD_C : ∀ d, d < 16 → hexD (hexC d) = some d := by decide

theorem hexGo_append : ∀ (x : Bs) (n : Nat) (y : Bs), hexGo n (x ++ y) = (hexGo n x).bind fun m => hexGo m y
  | [], n, y => rfl
  | c :: t, n, y => by
    simp only [List.cons_append, hexGo]
    cases hexD c with
    | none => rfl
    | some d => exact hexGo_append t _ y
theorem hexGo_mem : ∀ (l : Bs) (n m : Nat), hexGo n l = some m → ∀ c ∈ l, hexD c ≠ none
  | [], n, m, _, c, hc => by cases hc
  | a :: t, n, m, h, c, hc => by
    simp only [hexGo] at h
    cases ha : hexD a with
    | none => rw [ha] at h; cases h
    | some d =>
      rw [ha] at h
      rcases List.mem_cons.1 hc with rfl | hc
      · rw [ha]; simp
      · exact hexGo_mem t _ m h c hc
theorem hexGo_bad : ∀ (l : Bs) (n : Nat), (∃ c ∈ l, hexD c = none) → hexGo n l = none
  | [], n, h => by simp at h
  | a :: t, n, h => by
    simp only [hexGo]
    cases ha : hexD a with
    | none => rfl
    | some d =>
      obtain ⟨c, hc, h0⟩ := h
      rcases List.mem_cons.1 hc with rfl | hc
      · rw [ha] at h0; cases h0
      · exact hexGo_bad t _ ⟨c, hc, h0⟩
theorem hexGo_F (f : Nat → UInt8) (hf : ∀ d, d < 16 → hexD (f d) = some d) : ∀ (k n : Nat), n ≤ k → hexGo 0 (hexF f n) = some n
  | 0, n, h => by
    rw [hexF_small f n (by omega)]
    simp only [hexGo, hf n (by omega)]
    congr 1; omega
  | k + 1, n, h => by
    by_cases hn : n < 16
    · rw [hexF_small f n hn]
      simp only [hexGo, hf n hn]
      congr 1; omega
    · rw [hexF_big f n hn, hexGo_append, hexGo_F f hf k (n / 16) (by omega)]
      simp only [Option.bind_some, hexGo, hf (n % 16) (by omega)]
      congr 1; omega
theorem hexGo_zeros : ∀ (k : Nat) (l : Bs), hexGo 0 (List.replicate k 48 ++ l) = hexGo 0 l
  | 0, l => rfl
  | k + 1, l => by
    rw [List.replicate_succ, List.cons_append]
    show hexGo 0 (List.replicate k 48 ++ l) = _
    exact hexGo_zeros k l
theorem hexF_ne (f : Nat → UInt8) (n : Nat) : hexF f n ≠ [] := by rw [hexF]; split <;> simp
theorem hexF_len (f : Nat → UInt8) : ∀ (k n : Nat), n < 16 ^ (k + 1) → (hexF f n).length ≤ k + 1
  | 0, n, h => by rw [hexF_small f n (by omega)]; simp
  | k + 1, n, h => by
    by_cases hn : n < 16
    · rw [hexF_small f n hn]; simp
    · rw [hexF_big f n hn, List.length_append]
      have := hexF_len f k (n / 16) (by rw [Nat.pow_succ] at h; omega)
      simp; omega
theorem hex_ne (c : UInt8) (h : hexD c ≠ none) : c ≠ 59 ∧ c ≠ 13 ∧ c ≠ 10 := by
  refine ⟨?_, ?_, ?_⟩ <;> (rintro rfl; exact h rfl)
theorem cut_none (c : UInt8) (l : Bs) (h : ∀ x ∈ l, x ≠ c) : cutL c l = (l, [], false) := by
  have : l.contains c = false := by
    cases hc : l.contains c
    · rfl
    · exact absurd rfl (h c (by simpa using hc))
  unfold cutL; rw [this]; rfl
theorem cut_at (c : UInt8) (l r : Bs) (h : ∀ x ∈ l, x ≠ c) : cutL c (l ++ c :: r) = (l, r, true) := by
  have hp : ∀ x ∈ l, (x != c) = true := fun x hx => by simp [h x hx]
  unfold cutL
  rw [if_pos (by simp), List.takeWhile_append_of_pos hp, List.takeWhile_cons, List.dropWhile_append_of_pos hp, List.dropWhile_cons]
  simp
/-- the size of digits alone -/
theorem sizeL_digits (l : Bs) (n : Nat) (hl : l.length ≤ 16) (hne : l ≠ []) (hg : hexGo 0 l = some n) (hn : n ≤ 9007199254740991) : sizeL l = (n, 0) := by
  have hc := cut_none 59 l (fun x hx => (hex_ne x (hexGo_mem l 0 n hg x hx)).1)
  have hN : hexN l = some n := by unfold hexN; rw [if_neg hne]; exact hg
  unfold sizeL
  rw [hc]
  simp only
  rw [if_neg (by omega), if_pos (by rfl), hN]
  simp only
  rw [if_neg (by omega)]
/-- .. and with what stands behind a semicolon -/
theorem sizeL_more (l r : Bs) (n : Nat) (hl : l.length ≤ 16) (hne : l ≠ []) (hg : hexGo 0 l = some n) (hn : n ≤ 9007199254740991) : sizeL (l ++ 59 :: r) = if allL 1 r then (n, 0) else (0, 400) := by
  have hc := cut_at 59 l r (fun x hx => (hex_ne x (hexGo_mem l 0 n hg x hx)).1)
  have hN : hexN l = some n := by unfold hexN; rw [if_neg hne]; exact hg
  unfold sizeL
  rw [hc]
  simp only
  rw [if_neg (by omega), hN]
  simp only
  rw [if_neg (by omega : ¬ 9007199254740991 < n)]
theorem sizeL_hex (n : Nat) (h : n ≤ 9007199254740991) : sizeL (hexL n) = (n, 0) :=
  sizeL_digits _ n (Nat.le_trans (hexF_len hexc 13 n (by omega)) (by omega)) (hexF_ne _ _) (hexGo_F hexc hexD_c n n (Nat.le_refl _)) h

theorem stop_no (s : Dc) (hm : s.mode ≠ 5) (hb : s.bad = 0) : stopD s = false := by simp [stopD, hm, hb]
theorem stepD_0 (s : Dc) (c : UInt8) (h : s.mode = 0) : stepD s c = match addK s c with
    | 0 => addD s c
    | 1 => sizedD { s with line := [] } (txt s)
    | _ => { addD s c with bad := 400 } := by cases s; simp only at h; subst h; rfl
theorem stepD_1 (s : Dc) (c : UInt8) (h : s.mode = 1) : stepD s c = if 1 < s.left then { s with body := s.body ++ [c], left := s.left - 1 } else { s with body := s.body ++ [c], left := s.left - 1, mode := 2 } := by cases s; simp only at h; subst h; rfl
theorem stepD_2 (s : Dc) (c : UInt8) (h : s.mode = 2) : stepD s c = if c = 13 then { s with mode := 3 } else { s with bad := 400 } := by cases s; simp only at h; subst h; rfl
theorem stepD_3 (s : Dc) (c : UInt8) (h : s.mode = 3) : stepD s c = if c = 10 then { s with mode := 0 } else { s with bad := 400 } := by cases s; simp only at h; subst h; rfl
theorem stepD_4 (s : Dc) (c : UInt8) (h : s.mode = 4) : stepD s c = match addK s c with
    | 0 => if s.H < s.head + 1 then { addD s c with head := s.head + 1, bad := 431 } else { addD s c with head := s.head + 1 }
    | 1 => if s.H < s.head + 1 then { addD s c with head := s.head + 1, bad := 431 } else trailD { s with head := s.head + 1, line := [] } (txt s)
    | _ => { addD s c with head := s.head + 1, bad := 400 } := by cases s; simp only at h; subst h; rfl

/-- a byte of a line that is not its end -/
theorem addK_0 (s : Dc) (c : UInt8) (hc : c ≠ 10) (hr : cr s.line = false) (hl : s.line.length + 1 < s.L) : addK s c = 0 := by
  unfold addK; rw [hr]; simp [hc]; omega
theorem addK_1 (s : Dc) (hr : cr s.line = true) : addK s 10 = 1 := by unfold addK; rw [hr]; rfl
theorem cr_snoc (p : Bs) (c : UInt8) : cr (p ++ [c]) = decide (c = 13) := by unfold cr; simp

/-- all of it is eaten, and s' is behind it -/
def Eats (s : Dc) (a : Bs) (s' : Dc) : Prop := feedD s a = (a.length, s')
theorem Eats.nil (s : Dc) : Eats s [] s := rfl
theorem Eats.append {s s' s'' : Dc} {a b : Bs} (h : Eats s a s') (h2 : Eats s' b s'') : Eats s (a ++ b) s'' := by
  unfold Eats at *
  rw [feedD_append, h]
  simp only [h2, List.length_append]
theorem Eats.one {s : Dc} {c : UInt8} (h : stopD s = false) : Eats s [c] (stepD s c) := by
  unfold Eats
  rw [feedD_cons s c [] h]
  rfl
theorem Eats.cons {s s' : Dc} {c : UInt8} {a : Bs} (h : stopD s = false) (h2 : Eats (stepD s c) a s') : Eats s (c :: a) s' := (Eats.one h).append h2

theorem eat_text : ∀ (t : Bs) (s : Dc) (p : Bs), s.mode = 0 → s.bad = 0 → (∀ c ∈ t, c ≠ 13 ∧ c ≠ 10) → cr p = false → p.length + t.length < s.L → Eats { s with line := p } t { s with line := p ++ t }
  | [], s, p, _, _, _, _, _ => by rw [List.append_nil]; exact Eats.nil _
  | c :: t, s, p, hm, hb, hc, hr, hl => by
    obtain ⟨h13, h10⟩ := hc c (by simp)
    rw [List.length_cons] at hl
    refine Eats.cons (stop_no _ (by simp only [hm]; decide) hb) ?_
    rw [stepD_0 _ _ (by exact hm), addK_0 _ _ h10 (by exact hr) (by simp only; omega)]
    have := eat_text t s (p ++ [c]) hm hb (fun x hx => hc x (by simp [hx])) (by rw [cr_snoc]; simp [h13]) (by simp; omega)
    rw [List.append_assoc, List.singleton_append] at this
    exact this
theorem eat_line (t : Bs) (s : Dc) (hm : s.mode = 0) (hb : s.bad = 0) (hn : s.line = []) (hc : ∀ c ∈ t, c ≠ 13 ∧ c ≠ 10) (hl : t.length + 1 < s.L) : Eats s (t ++ [13, 10]) (sizedD s t) := by
  have e : s = { s with line := [] } := by cases s; simp_all
  have h1 := eat_text t s [] hm hb hc rfl (by simp; omega)
  rw [← e, List.nil_append] at h1
  have hr : cr t = false := by
    unfold cr
    rw [decide_eq_false_iff_not]
    intro h
    exact (hc 13 (List.mem_of_getLast? h)).1 rfl
  refine h1.append (Eats.cons (stop_no _ (by simp only [hm]; decide) hb) ?_)
  rw [stepD_0 _ _ (by exact hm), addK_0 _ _ (by decide) (by exact hr) (by simp only; omega)]
  have h2 : Eats (addD { s with line := t } 13) [10] _ := Eats.one (stop_no _ (by simp only [addD, hm]; decide) hb)
  rw [stepD_0 _ _ (by exact hm), addK_1 _ (by unfold addD; rw [cr_snoc]; rfl)] at h2
  have h3 : txt (addD { s with line := t } 13) = t := by unfold txt addD; simp
  simp only [h3] at h2
  have h4 : ({ addD { s with line := t } 13 with line := [] } : Dc) = s := by unfold addD; exact e.symm
  rw [h4] at h2
  exact h2
theorem eat_text4 : ∀ (t : Bs) (s : Dc) (p : Bs) (h : Nat), s.mode = 4 → s.bad = 0 → (∀ c ∈ t, c ≠ 13 ∧ c ≠ 10) → cr p = false → p.length + t.length < s.L → h + t.length ≤ s.H → Eats { s with line := p, head := h } t { s with line := p ++ t, head := h + t.length }
  | [], s, p, h, _, _, _, _, _, _ => by rw [List.append_nil]; exact Eats.nil _
  | c :: t, s, p, h, hm, hb, hc, hr, hl, hh => by
    obtain ⟨h13, h10⟩ := hc c (by simp)
    rw [List.length_cons] at hl hh
    refine Eats.cons (stop_no _ (by simp only [hm]; decide) hb) ?_
    rw [stepD_4 _ _ (by exact hm), addK_0 _ _ h10 (by exact hr) (by simp only; omega)]
    simp only
    rw [if_neg (by omega)]
    have := eat_text4 t s (p ++ [c]) (h + 1) hm hb (fun x hx => hc x (by simp [hx])) (by rw [cr_snoc]; simp [h13]) (by simp; omega) (by omega)
    rw [List.append_assoc, List.singleton_append, show h + 1 + t.length = h + (c :: t).length by simp; omega] at this
    exact this
theorem eat_line4 (t : Bs) (s : Dc) (hm : s.mode = 4) (hb : s.bad = 0) (hn : s.line = []) (hc : ∀ c ∈ t, c ≠ 13 ∧ c ≠ 10) (hl : t.length + 1 < s.L) (hh : s.head + t.length + 2 ≤ s.H) : Eats s (t ++ [13, 10]) (trailD { s with head := s.head + t.length + 2 } t) := by
  have e : s = { s with line := [], head := s.head } := by cases s; simp_all
  have h1 := eat_text4 t s [] s.head hm hb hc rfl (by simp; omega) (by omega)
  rw [← e, List.nil_append] at h1
  have hr : cr t = false := by
    unfold cr
    rw [decide_eq_false_iff_not]
    intro h
    exact (hc 13 (List.mem_of_getLast? h)).1 rfl
  refine h1.append (Eats.cons (stop_no _ (by simp only [hm]; decide) hb) ?_)
  rw [stepD_4 _ _ (by exact hm), addK_0 _ _ (by decide) (by exact hr) (by simp only; omega)]
  simp only
  rw [if_neg (by omega)]
  have h2 : Eats { addD { s with line := t, head := s.head + t.length } 13 with head := s.head + t.length + 1 } [10] _ := Eats.one (stop_no _ (by simp only [addD, hm]; decide) hb)
  rw [stepD_4 _ _ (by exact hm), addK_1 _ (by unfold addD; rw [cr_snoc]; rfl)] at h2
  simp only at h2
  rw [if_neg (by simp only [addD]; omega)] at h2
  have h3 : txt ({ addD { s with line := t, head := s.head + t.length } 13 with head := s.head + t.length + 1 } : Dc) = t := by unfold txt addD; simp
  simp only [h3] at h2
  have h4 : ({ addD { s with line := t, head := s.head + t.length } 13 with head := s.head + t.length + 1 + 1, line := [] } : Dc) = { s with head := s.head + t.length + 2 } := by unfold addD; simp [hn]
  rw [h4] at h2
  exact h2
theorem eat_data : ∀ (d : Bs) (s : Dc), s.mode = 1 → s.bad = 0 → s.left = d.length → d ≠ [] → Eats s d { s with body := s.body ++ d, left := 0, mode := 2 }
  | [], s, _, _, _, h => absurd rfl h
  | c :: t, s, hm, hb, hl, _ => by
    rw [List.length_cons] at hl
    refine Eats.cons (stop_no _ (by rw [hm]; decide) hb) ?_
    rw [stepD_1 _ _ hm]
    cases t with
    | nil =>
      rw [if_neg (by rw [hl]; simp)]
      have : s.left - 1 = 0 := by rw [hl]; rfl
      rw [this]
      exact Eats.nil _
    | cons a u =>
      rw [if_pos (by rw [hl]; simp)]
      have := eat_data (a :: u) { s with body := s.body ++ [c], left := s.left - 1 } hm hb (by simp only; omega) (by simp)
      simp only [List.append_assoc, List.singleton_append] at this
      exact this
theorem eat_chunk (d : Bs) (s : Dc) (hm : s.mode = 0) (hb : s.bad = 0) (hn : s.line = []) (hd : d ≠ []) (hz : d.length ≤ 9007199254740991) (hl : (hexL d.length).length + 1 < s.L) (hr : s.body.length + d.length ≤ s.M) :
    Eats s (hexL d.length ++ [13, 10] ++ d ++ [13, 10]) { s with body := s.body ++ d, left := 0 } := by
  have hd0 : 0 < d.length := List.length_pos_iff.2 hd
  have h1 := eat_line (hexL d.length) s hm hb hn (fun c hc => (hex_ne c (hexGo_mem _ 0 d.length (hexGo_F hexc hexD_c _ _ (Nat.le_refl _)) c hc)).2) hl
  have h2 : sizedD s (hexL d.length) = { s with mode := 1, left := d.length } := by
    unfold sizedD
    rw [sizeL_hex _ hz]
    simp only
    rw [if_pos trivial, if_neg (by omega), if_neg (by omega)]
  rw [h2] at h1
  have h3 := eat_data d { s with mode := 1, left := d.length } rfl hb rfl hd
  refine (h1.append h3).append (Eats.cons (stop_no _ (by simp) hb) ?_)
  rw [stepD_2 _ _ rfl, if_pos rfl]
  have h4 : Eats ({ s with mode := 3, left := 0, body := s.body ++ d } : Dc) [10] _ := Eats.one (stop_no _ (by simp) hb)
  rw [stepD_3 _ _ rfl, if_pos rfl] at h4
  have h5 : ({ s with mode := 0, left := 0, body := s.body ++ d } : Dc) = { s with body := s.body ++ d, left := 0 } := by cases s; simp_all
  rw [← h5]
  exact h4

/-- content in chunks of k bytes -/
def chunksL (k : Nat) (l : Bs) : Bs :=
  if h : l = [] ∨ k = 0 then [] else hexL (l.take k).length ++ [13, 10] ++ l.take k ++ [13, 10] ++ chunksL k (l.drop k)
termination_by l.length
decreasing_by
  simp only [not_or] at h
  have := List.length_pos_iff.2 h.1
  simp; omega
theorem chunksL_nil (k : Nat) : chunksL k [] = [] := by rw [chunksL]; simp
theorem chunksL_cons (k : Nat) (l : Bs) (hl : l ≠ []) (hk : k ≠ 0) : chunksL k l = hexL (l.take k).length ++ [13, 10] ++ l.take k ++ [13, 10] ++ chunksL k (l.drop k) := by
  rw [chunksL, dif_neg (by simp [hl, hk])]
theorem eat_chunks (k : Nat) (hk : k ≠ 0) : ∀ (n : Nat) (l : Bs) (s : Dc), l.length ≤ n → s.mode = 0 → s.bad = 0 → s.line = [] → s.left = 0 → l.length < 256 → 3 < s.L → s.body.length + l.length ≤ s.M →
    Eats s (chunksL k l) { s with body := s.body ++ l }
  | 0, l, s, h, hm, hb, hn, h0, hl, hL, hM => by
    have : l = [] := List.eq_nil_of_length_eq_zero (by omega)
    subst this
    rw [chunksL_nil, List.append_nil]; exact Eats.nil _
  | n + 1, l, s, h, hm, hb, hn, h0, hl, hL, hM => by
    by_cases he : l = []
    · subst he
      rw [chunksL_nil, List.append_nil]; exact Eats.nil _
    · have hp := List.length_pos_iff.2 he
      rw [chunksL_cons k l he hk]
      have htl : (l.take k).length + (l.drop k).length = l.length := by rw [← List.length_append, List.take_append_drop]
      have hd : l.take k ≠ [] := by simp [he, hk]
      have hdp := List.length_pos_iff.2 hd
      have hx := hexF_len hexc 1 (l.take k).length (by omega)
      have h1 := eat_chunk (l.take k) s hm hb hn hd (by omega) (by show (hexF hexc _).length + 1 < _; omega) (by omega)
      have h2 := eat_chunks k hk n (l.drop k) { s with body := s.body ++ l.take k, left := 0 } (by omega) hm hb hn rfl (by omega) hL (by simp only [List.length_append]; omega)
      have h3 : ({ s with body := s.body ++ l.take k ++ l.drop k, left := 0 } : Dc) = { s with body := s.body ++ l } := by rw [List.append_assoc, List.take_append_drop]; cases s; simp_all
      have h4 := h1.append h2
      rw [← h3]; exact h4

/-- what Encode writes of a body, of these lines of trailers -/
def encL (k : Nat) (body lines : Bs) : Bs := chunksL k body ++ [48, 13, 10] ++ lines ++ [13, 10]
def sumF1 : Bs := [83, 117, 109, 58, 32, 49]
/-- the roomy limits -/
def roomD : Dc := newD 200 1000 30 1000
theorem eat_enc (k : Nat) (body : Bs) (hk : k ≠ 0 ∨ body = []) (hb : body.length ≤ 200) :
    Eats roomD (encL k body (sumF1 ++ [13, 10])) { roomD with mode := 5, body := body, head := 10, trl := [([83, 117, 109], [49])] } := by
  have h1 : Eats roomD (chunksL k body) { roomD with body := body } := by
    rcases hk with hk | rfl
    · exact eat_chunks k hk body.length body roomD (Nat.le_refl _) rfl rfl rfl rfl (by omega) (by decide) (by show 0 + body.length ≤ 1000; omega)
    · rw [chunksL_nil]; exact Eats.nil _
  have h2 : Eats { roomD with body := body } [48, 13, 10] { roomD with body := body, mode := 4 } := by
    have := eat_line [48] { roomD with body := body } rfl rfl rfl (by simp) (by show [48].length + 1 < 200; decide)
    have e : sizedD { roomD with body := body } [48] = { roomD with body := body, mode := 4 } := by
      unfold sizedD
      rw [show sizeL [48] = (0, 0) by decide]
      simp
    rw [e] at this; exact this
  have h3 : Eats { roomD with body := body, mode := 4 } (sumF1 ++ [13, 10]) { roomD with body := body, mode := 4, head := 8, trl := [([83, 117, 109], [49])] } := by
    have := eat_line4 sumF1 { roomD with body := body, mode := 4 } rfl rfl rfl (by decide) (by show sumF1.length + 1 < 200; decide) (by show 0 + sumF1.length + 2 ≤ 1000; decide)
    have e : trailD { roomD with body := body, mode := 4, head := 0 + sumF1.length + 2 } sumF1 = { roomD with body := body, mode := 4, head := 8, trl := [([83, 117, 109], [49])] } := by
      unfold trailD
      rw [if_neg (by decide), if_pos (by decide), if_neg (by show ¬ 30 ≤ 0; decide)]
      rfl
    have this : Eats { roomD with body := body, mode := 4 } (sumF1 ++ [13, 10]) (trailD { roomD with body := body, mode := 4, head := 0 + sumF1.length + 2 } sumF1) := this
    rw [e] at this; exact this
  have h4 : Eats { roomD with body := body, mode := 4, head := 8, trl := [([83, 117, 109], [49])] } [13, 10] { roomD with mode := 5, body := body, head := 10, trl := [([83, 117, 109], [49])] } := by
    have := eat_line4 [] { roomD with body := body, mode := 4, head := 8, trl := [([83, 117, 109], [49])] } rfl rfl rfl (by simp) (by show 0 + 1 < 200; decide) (by show 8 + 0 + 2 ≤ 1000; decide)
    exact this
  exact ((h1.append h2).append h3).append h4
/-- however what was written is divided: no flaw, and at the end it is all there -/
theorem cut_enc (s fin : Dc) (enc behind : Bs) (h : Eats s enc fin) (hf : stopD fin = true) (hb : fin.bad = 0) (p q : Bs) (hpq : p ++ q = enc ++ behind) :
    (feedD s p).2.bad = 0 ∧ ((feedD s p).2.mode = 5 → (feedD s p) = (enc.length, fin)) ∧ (stopD (feedD s p).2 = true → (feedD s p) = (enc.length, fin)) ∧ (q = [] → (feedD s p) = (enc.length, fin)) := by
  have hall : feedD s (p ++ q) = (enc.length, fin) := by
    rw [hpq, feedD_append, h]
    simp only [feedD_stop fin behind hf, Nat.add_zero]
  have hA := feedD_append p s q
  rw [hall] at hA
  have hstop : stopD (feedD s p).2 = true → feedD s p = (enc.length, fin) := by
    intro hs
    rw [feedD_stop _ q hs] at hA
    simp only [Nat.add_zero] at hA
    exact hA.symm
  refine ⟨?_, ?_, hstop, ?_⟩
  · by_cases h0 : (feedD s p).2.bad = 0
    · exact h0
    · have := hstop (by simp [stopD, h0])
      rw [this]; exact hb
  · intro hm; exact hstop (by simp [stopD, hm])
  · intro hq
    subst hq
    rw [List.append_nil] at hall
    exact hall
end Tk
end Go.Proofs.YtanilbckakoogaaGreatDoor
