/- message: requests of so many bytes and fields: what they come to (plain facts). -/
import Derived.Test.YtomhpnkpmeindaaGreatDoorQRmP
import Derived.Test.YtomhpnkpmeindaaGreatDoorQB
namespace Go.Proofs.YtomhpnkpmeindaaGreatDoor
namespace Tk

theorem go_eats {s X : Pr} {t : Bs} (h : EatsP s t X) (hs : stopP s = false) (ht : t ≠ []) : goP s t = takeP X := by
  have h1 := goP_feed t s hs ht
  unfold EatsP at h
  rw [h] at h1
  simp only [List.take_length] at h1
  exact h1
theorem takeP_yes (s : Pr) (h : waitP s = true) : takeP s = ([s.msg], s.fresh) := by unfold takeP; rw [if_pos h]
theorem go_two {s s' X : Pr} {a b : Bs} {ms : List Msg} (h : goP s a = ([], s')) (h2 : goP s' b = (ms, X)) : goP s (a ++ b) = (ms, X) := by
  rw [goP_append, h]; simp only [h2, List.nil_append]
theorem fresh_end (s : Pr) : (endP s.fresh).bad = 0 := by
  unfold endP leftP
  have h1 : s.fresh.kind = 0 := rfl
  have h2 : s.fresh.left = 0 := rfl
  have h3 : s.fresh.bad = 0 := rfl
  rw [h1, h2]
  simp [h3]
theorem go_count {s : Pr} {t : Bs} (hm : s.mode = 4) (hb : s.bad = 0) (hr : s.rsp = false) (hl : s.len = t.length) (hbd : s.body = []) (ht : t ≠ []) :
    goP s t = ([{ s.msg with body := t }], (({ s with body := t, mode := 7, msg := { s.msg with body := t } } : Pr).ate t.length).fresh) := by
  have hs : stopP s = false := is_go (by omega) hb (by rw [hr]; rfl)
  have h1 := eats_count t s hs hm ht (by rw [hbd, hl]; simp)
  have e : countP s t = { s with body := t, mode := 7, msg := { s.msg with body := t } } := by
    unfold countP; rw [if_neg (by rw [hbd, hl]; simp), hbd]; rfl
  rw [e] at h1
  rw [go_eats h1 hs ht]
  unfold takeP
  rw [if_pos (by unfold waitP; show (decide ((7 : Nat) = 7) && decide (s.bad = 0)) = true; rw [hb]; rfl)]
  rfl
theorem rep_chunks : ∀ n, chunksL 1 (List.replicate n 120) = rep n chB
  | 0 => by rw [show List.replicate 0 (120 : UInt8) = [] from rfl, chunksL_nil]; rfl
  | n + 1 => by
    rw [List.replicate_succ, chunksL_cons 1 _ (by simp) (by omega)]
    show hexL [(120 : UInt8)].length ++ [13, 10] ++ [120] ++ [13, 10] ++ chunksL 1 (List.replicate n 120) = chB ++ rep n chB
    rw [rep_chunks n, show hexL [(120 : UInt8)].length = [49] by unfold hexL; rw [hexF_small _ _ (by decide)]; rfl]
    rfl
theorem eat_rep (C M n : Nat) (hn : n ≤ M) (h : n < 256) : Eats (newD 100 400 C M) (rep n chB) { newD 100 400 C M with body := List.replicate n 120 } := by
  rw [← rep_chunks]
  have := eat_chunks 1 (by omega) n (List.replicate n 120) (newD 100 400 C M) (by simp) rfl rfl rfl rfl (by simpa using h) (by show 3 < 100; omega) (by show 0 + _ ≤ M; simpa using hn)
  exact this
theorem eat_last (C M : Nat) (b : Bs) : Eats { newD 100 400 C M with body := b } [48, 13, 10, 13, 10] { newD 100 400 C M with body := b, mode := 5, head := 2 } := by
  have h2 : Eats { newD 100 400 C M with body := b } [48, 13, 10] { newD 100 400 C M with body := b, mode := 4 } := by
    have := eat_line [48] { newD 100 400 C M with body := b } rfl rfl rfl (by simp) (by show [48].length + 1 < 100; decide)
    have e : sizedD { newD 100 400 C M with body := b } [48] = { newD 100 400 C M with body := b, mode := 4 } := by
      unfold sizedD
      rw [show sizeL [48] = (0, 0) by decide]
      simp
    rw [e] at this; exact this
  have h4 : Eats { newD 100 400 C M with body := b, mode := 4 } [13, 10] { newD 100 400 C M with body := b, mode := 5, head := 2 } := by
    have := eat_line4 [] { newD 100 400 C M with body := b, mode := 4 } rfl rfl rfl (by simp) (by show 0 + 1 < 100; decide) (by show 0 + 0 + 2 ≤ 400; decide)
    exact this
  exact h2.append h4
theorem eat_over (C M : Nat) (b : Bs) (hb : M ≤ b.length) : Eats { newD 100 400 C M with body := b } [49, 13, 10] { newD 100 400 C M with body := b, bad := 413 } := by
  have := eat_line [49] { newD 100 400 C M with body := b } rfl rfl rfl (by simp) (by show [49].length + 1 < 100; decide)
  have e : sizedD { newD 100 400 C M with body := b } [49] = { newD 100 400 C M with body := b, bad := 413 } := by
    unfold sizedD
    rw [show sizeL [49] = (1, 0) by decide]
    show (if (0 : Nat) = 0 then if M - b.length < 1 then _ else _ else _ : Dc) = _
    rw [if_pos rfl, if_pos (by omega)]
  rw [e] at this; exact this
def b1 (j n : Nat) : Bs := rmHead j ++ (rmCLh n ++ List.replicate n 120)
def b2 (j n : Nat) : Bs := rmHead j ++ rmTE ++ rep n chB ++ [48, 13, 10, 13, 10]
def b5 (j n : Nat) : Bs := rmHead j ++ rmTE ++ rep n chB

theorem room_1 (j n : Nat) (hj : j < 12) (hn : n < 60) : allS (newP 100 400 (j + 2) (n + 1) false) (b1 j (n + 1)) = 0 ∧ (allM (newP 100 400 (j + 2) (n + 1) false) (b1 j (n + 1))).map (·.body) = [List.replicate (n + 1) 120] := by
  have h0 := head_all (j + 2) (n + 1) j hj (by omega)
  have h1 := c1_all j hj n hn
  unfold c1 at h1
  simp only [Bool.and_eq_true, decide_eq_true_eq, List.isEmpty_iff, Bool.not_eq_true'] at h1
  obtain ⟨⟨⟨⟨⟨e1, e2⟩, e3⟩, e4⟩, e5⟩, e6⟩ := h1
  have h2 := go_count (t := List.replicate (n + 1) 120) e2 e3 e6 (by rw [e4]; simp) e5 (by simp)
  have h3 := go_two h0 (go_two (Prod.ext e1 rfl) h2)
  rw [show rmHead j ++ (rmCLh (n + 1) ++ List.replicate (n + 1) 120) = b1 j (n + 1) from rfl] at h3
  unfold allS allM
  rw [h3]
  exact ⟨fresh_end _, rfl⟩
theorem room_3 (j n : Nat) (hj : j < 12) (hn : n < 60) : allS (newP 100 400 (j + 2) n false) (b1 j (n + 1)) = 413 := by
  have h0 := head_all (j + 2) n j hj (by omega)
  have h1 := c3_all j hj n hn
  unfold c3 at h1
  simp only [Bool.and_eq_true, decide_eq_true_eq, List.isEmpty_iff, Nat.add_sub_cancel] at h1
  obtain ⟨e1, e2⟩ := h1
  have h3 := go_two h0 (go_two (Prod.ext e1 rfl) (goP_stop _ (List.replicate (n + 1) 120) (by unfold stopP; rw [e2]; simp)))
  rw [show rmHead j ++ (rmCLh (n + 1) ++ List.replicate (n + 1) 120) = b1 j (n + 1) from rfl] at h3
  unfold allS
  rw [h3]
  show (endP (goP (hdS (j + 2) n j) (rmCLh (n + 1))).2).bad = 413
  rw [end_bad (by rw [e2]; simp), e2]
theorem room_4 (j n : Nat) (hj : j < 12) (hn : n < 60) : allS (newP 100 400 (j + 1) (n + 1) false) (b1 j (n + 1)) = 431 := by
  have h0 := head_all (j + 1) (n + 1) j hj (by omega)
  have h1 := c4_all j hj n hn
  unfold c4 at h1
  simp only [Bool.and_eq_true, decide_eq_true_eq, List.isEmpty_iff] at h1
  obtain ⟨e1, e2⟩ := h1
  have h3 := go_two h0 (go_two (Prod.ext e1 rfl) (goP_stop _ (List.replicate (n + 1) 120) (by unfold stopP; rw [e2]; simp)))
  rw [show rmHead j ++ (rmCLh (n + 1) ++ List.replicate (n + 1) 120) = b1 j (n + 1) from rfl] at h3
  unfold allS
  rw [h3]
  show (endP (goP (hdS (j + 1) (n + 1) j) (rmCLh (n + 1))).2).bad = 431
  rw [end_bad (by rw [e2]; simp), e2]
theorem te_all (C n j : Nat) (hj : j < 12) (hC : j + 2 ≤ C) : goP (newP 100 400 C n false) (rmHead j ++ rmTE) = ([], teS C n j) := by
  rw [goP_append, head_all C n j hj (by omega)]
  simp only [head_te C n j hj hC, List.append_nil]
theorem room_2 (j n : Nat) (hj : j < 12) (hn : n < 60) : allS (newP 100 400 (j + 2) (n + 1) false) (b2 j (n + 1)) = 0 ∧ (allM (newP 100 400 (j + 2) (n + 1) false) (b2 j (n + 1))).map (·.body) = [List.replicate (n + 1) 120] := by
  have h0 := te_all (j + 2) (n + 1) j hj (Nat.le_refl _)
  have h1 := (eat_rep (j + 2) (n + 1) (n + 1) (Nat.le_refl _) (by omega)).append (eat_last (j + 2) (n + 1) (List.replicate (n + 1) 120))
  have hst : stopP (teS (j + 2) (n + 1) j) = false := rfl
  have h2 := eats_chunk (rep (n + 1) chB ++ [48, 13, 10, 13, 10]) (teS (j + 2) (n + 1) j) hst rfl rfl (by simp)
  unfold Eats at h1
  rw [show (teS (j + 2) (n + 1) j).dc = newD 100 400 (j + 2) (n + 1) from rfl, h1] at h2
  simp only [List.take_length] at h2
  have h3 := go_eats h2 hst (by simp)
  rw [chunk_end _ _ rfl rfl] at h3
  rw [takeP_yes _ rfl] at h3
  have h4 := go_two h0 h3
  rw [← List.append_assoc, show rmHead j ++ rmTE ++ rep (n + 1) chB ++ [48, 13, 10, 13, 10] = b2 j (n + 1) from rfl] at h4
  unfold allS allM
  rw [h4]
  exact ⟨fresh_end _, rfl⟩
theorem room_5 (j n : Nat) (hj : j < 12) (hn : n < 60) : allS (newP 100 400 (j + 2) n false) (b5 j (n + 1)) = 413 := by
  have h0 := te_all (j + 2) n j hj (Nat.le_refl _)
  have h1 := (eat_rep (j + 2) n n (Nat.le_refl _) (by omega)).append (eat_over (j + 2) n (List.replicate n 120) (by simp))
  have hst : stopP (teS (j + 2) n j) = false := rfl
  have h2 := eats_chunk (rep n chB ++ [49, 13, 10]) (teS (j + 2) n j) hst rfl rfl (by simp)
  unfold Eats at h1
  rw [show (teS (j + 2) n j).dc = newD 100 400 (j + 2) n from rfl, h1] at h2
  simp only [List.take_length] at h2
  have h3 := go_eats h2 hst (by simp)
  rw [chunk_bad _ _ (by simp)] at h3
  unfold takeP at h3
  rw [if_neg (by unfold waitP Pr.ate; simp)] at h3
  have h5 := go_two h0 (go_two h3 (goP_stop _ [120, 13, 10] (by unfold stopP Pr.ate; simp)))
  have e : rmHead j ++ rmTE ++ (rep n chB ++ [49, 13, 10] ++ [120, 13, 10]) = b5 j (n + 1) := by
    unfold b5
    rw [rep_snoc, List.append_assoc (rep n chB)]
    rfl
  rw [e] at h5
  unfold allS
  rw [h5]
  rw [end_bad (by unfold Pr.ate; simp)]
  rfl
end Tk
end Go.Proofs.YtomhpnkpmeindaaGreatDoor
