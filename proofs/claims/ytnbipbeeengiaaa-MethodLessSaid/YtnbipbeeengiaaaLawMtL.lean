/- MethodLess: classes of methods and statuses lie in each other. -/
import Derived.Test.YtnbipbeeengiaaaLawMtN
import Derived.Sort.Walk0
import Derived.Deep.Cut
import Derived.Deep.RegionHeld
namespace Go.Proofs.Ytnbipbeeengiaaa
open Go.RowKit
namespace Tk

theorem memTM {l : List Bs} {x : Bs} (i : Nat) (h : i < l.length) : decide (x ∈ l.take (i + 1)) = (decide (x ∈ l.take i) || decide (l.getD i [] = x)) := by
  rw [List.take_succ_eq_append_getElem h, Bool.eq_iff_iff, decide_eq_true_eq, Bool.or_eq_true, decide_eq_true_eq, decide_eq_true_eq, List.mem_append, List.mem_singleton]
  have : l.getD i [] = l[i] := by simp [List.getD, h]
  rw [this]
  exact ⟨fun h => h.elim .inl (fun h => .inr h.symm), fun h => h.elim .inl (fun h => .inr h.symm)⟩
theorem nms_all : ∀ i : Fin 9, knowM (nmsM.getD i.val []) = true := by decide
theorem nms_up : ∀ i : Fin 8, nmsM.getD i.val [] < nmsM.getD (i.val + 1) [] := by decide
theorem chainM (x : Bs) : (cachM x = false ∧ safeM x = false ∧ idemM x = false ∧ knowM x = false) ∨ (cachM x = false ∧ safeM x = false ∧ idemM x = false ∧ knowM x = true) ∨ (cachM x = false ∧ safeM x = false ∧ idemM x = true ∧ knowM x = true) ∨ (cachM x = false ∧ safeM x = true ∧ idemM x = true ∧ knowM x = true) ∨ (cachM x = true ∧ safeM x = true ∧ idemM x = true ∧ knowM x = true) := by
  have e1 : idemM x = true → knowM x = true := by
    intro h
    simp only [idemM, safeM, cachM, Bool.or_eq_true, decide_eq_true_eq, List.mem_cons, List.not_mem_nil, or_false] at h
    rcases h with (((h | h) | (h | h)) | (h | h)) <;> subst h <;> decide
  have e2 : safeM x = true → idemM x = true := fun h => by unfold idemM; rw [h]; rfl
  have e3 : cachM x = true → safeM x = true := fun h => by unfold safeM; rw [h]; rfl
  cases h1 : cachM x <;> cases h2 : safeM x <;> cases h3 : idemM x <;> cases h4 : knowM x <;> simp_all
theorem statM (n : Int) : (brkM n = true ∧ finM n = true ∧ heuM n = false ∧ undM n = false) ∨ (brkM n = false ∧ finM n = false ∧ heuM n = false ∧ undM n = false) ∨ (brkM n = false ∧ finM n = true) := by
  have e1 : brkM n = true → finM n = true ∧ heuM n = false ∧ undM n = false := by
    intro h
    simp only [brkM, decide_eq_true_eq, List.mem_cons, List.not_mem_nil, or_false] at h
    rcases h with h | h | h | h <;> subst h <;> decide
  have e2 : heuM n = true → finM n = true := by
    intro h
    simp only [heuM, decide_eq_true_eq, List.mem_cons, List.not_mem_nil, or_false] at h
    rcases h with h | h | h | h | h | h | h | h | h | h | h | h <;> subst h <;> decide
  have e3 : undM n = true → finM n = true := by
    intro h
    simp only [undM, decide_eq_true_eq, List.mem_cons, List.not_mem_nil, or_false] at h
    rcases h with h | h | h | h | h | h | h | h | h | h | h | h | h <;> subst h <;> decide
  cases h1 : brkM n <;> cases h2 : finM n <;> cases h3 : heuM n <;> cases h4 : undM n <;> simp_all
theorem cellM {w w' : World} {p : Addr} {v : Value} (h : w.cell? p = some v) (hb : Below w.heap.size w w') : w'.cell? p = some v := by
  refine (hb.cell (p := p) ?_).trans h
  refine Nat.lt_of_not_le fun hle => ?_
  unfold World.cell? at h
  rw [Array.getElem?_eq_none hle] at h
  simp at h

set_option maxHeartbeats 8000000 in
set_option maxRecDepth 100000 in
theorem mless_any (x : Bs) (n : Int) (w : World) : Calls Try.prog 5 #[.string (mkS x), .int .i64 n] w fun e w' => e = .returned (.bool true) ∧ Below w.heap.size w w' := by
  have HL : Hid (∀ W : World, Calls Try.prog 6 #[] W fun e w' => e = .returned (.bool true) ∧ Below W.heap.size W w') := fun W => livesM_any W
  have HB0 := Lib.hid (Below.refl w.heap.size w)
  have hxz := size_mkS x
  by_cases h1 : 100 < x.length
  · have g1 : (100 : Int) < ((mkS x).size : Int) := by omega
    clear h1 hxz
    go_enter Try.func5, Try.ntmps5
    go_wp2_with fail
    refine (HL.out _).mono ?_
    rintro e w2 ⟨rfl, hb2⟩
    have HB1 := Lib.hid (HB0.out.trans (hb2.mono HB0.out.size))
    clear hb2 HB0
    go_wp2_with fail
    go_ret
    exact ⟨rfl, HB1.out⟩
  · have g1 : ¬ (100 : Int) < ((mkS x).size : Int) := by omega
    have HN := Lib.hid (fun W => names_anyM W)
    have HK : Hid (∀ t W, knowM t = true → Calls Try.prog 8 #[.string (mkS t)] W fun e w' => e = .returned (.bool true) ∧ Below W.heap.size W w') := fun t W ht => by
      have h := known_anyM t W
      rw [ht] at h
      exact h
    have HC : Hid (∀ W : World, Calls Try.prog 9 #[.string (mkS x)] W fun e w' => e = .returned (.bool (cachM x)) ∧ Below W.heap.size W w') := fun W => cached_anyM x W
    have HSa : Hid (∀ W : World, Calls Try.prog 17 #[.string (mkS x)] W fun e w' => e = .returned (.bool (safeM x)) ∧ Below W.heap.size W w') := fun W => safe_anyM x W
    have HI : Hid (∀ W : World, Calls Try.prog 19 #[.string (mkS x)] W fun e w' => e = .returned (.bool (idemM x)) ∧ Below W.heap.size W w') := fun W => idem_anyM x W
    have HQ : Hid (∀ W : World, Calls Try.prog 8 #[.string (mkS x)] W fun e w' => e = .returned (.bool (knowM x)) ∧ Below W.heap.size W w') := fun W => known_anyM x W
    have HBr : Hid (∀ W : World, Calls Try.prog 13 #[.int .i64 n] W fun e w' => e = .returned (.bool (brkM n)) ∧ Below W.heap.size W w') := fun W => brk_anyM n W
    have HF : Hid (∀ W : World, Calls Try.prog 12 #[.int .i64 n] W fun e w' => e = .returned (.bool (finM n)) ∧ W = w') := fun W => fin_anyM n W
    have HH : Hid (∀ W : World, Calls Try.prog 10 #[.int .i64 n] W fun e w' => e = .returned (.bool (heuM n)) ∧ Below W.heap.size W w') := fun W => heu_anyM n W
    have HU : Hid (∀ W : World, Calls Try.prog 11 #[.int .i64 n] W fun e w' => e = .returned (.bool (undM n)) ∧ Below W.heap.size W w') := fun W => und_anyM n W
    have HCh := Lib.hid (chainM x)
    have HSt := Lib.hid (statM n)
    have HKn := Lib.hid (show knowM x = decide (x ∈ nmsM) from rfl)
    have HAl := Lib.hid nms_all
    have HUp := Lib.hid nms_up
    have hlen : nmsM.length = 9 := rfl
    generalize cachM x = c at *
    generalize safeM x = s at *
    generalize idemM x = d at *
    generalize knowM x = q at *
    generalize brkM n = b at *
    generalize finM n = f at *
    generalize heuM n = h at *
    generalize undM n = u at *
    generalize nmsM = L at *
    clear h1 hxz
    go_enter Try.func5, Try.ntmps5
    go_wp2_with fail
    refine (HL.out _).mono ?_
    rintro e w2 ⟨rfl, hb2⟩
    have HB1 := Lib.hid (HB0.out.trans (hb2.mono HB0.out.size))
    clear hb2 HB0
    go_wp2_with fail
    refine (HN.out _).mono ?_
    rintro e w2 ⟨a, cp, rfl, ⟨a', c', hv, k⟩, hb2⟩
    have HB2 := Lib.hid (HB1.out.trans (hb2.mono HB1.out.size))
    rw [hlen] at hv
    injection hv with hv1 hv9 hv2
    clear hv9
    subst hv1 hv2
    obtain ⟨bk, o, rfl, -⟩ := k 0 (L.getD 0 []) (by simp [List.getD, hlen])
    have K : Hid (∀ i, i < 9 → w2.cell? ⟨bk, o + i, none⟩ = some (.string (mkS (L.getD i [])))) := fun i hi => by
      obtain ⟨b2, o2, e, h2⟩ := k i (L.getD i []) (by simp [List.getD, show i < L.length by omega])
      injection e with e
      injection e with e1 e2 e3
      clear e3
      subst e1 e2
      exact h2
    have HLe := Lib.hid hlen
    clear hb2 HB1 k hlen
    go_wp2_with fail
    go_loopw [6, 7] (fun vk vi wr => ∃ i : Nat, i ≤ 9 ∧ vi = .int .i64 i ∧ vk = .bool (decide (x ∈ L.take i)) ∧ Hid (Below w2.heap.size w2 wr)) (fun _ vi _ => 9 - (RowKit.intOf vi).toNat)
    case atStart => exact ⟨0, Nat.zero_le _, rfl, by simp, Below.refl _ _⟩
    case round =>
      obtain ⟨i, hi, rfl, rfl, HW⟩ := hrel
      rename World => W
      by_cases hlt : i < 9
      · have hct := cellM (K.out i hlt) HW.out
        have hkt : knowM (L.getD i []) = true := HAl.out ⟨i, hlt⟩
        have hmm := memTM (x := x) i (show i < L.length by have := HLe.out; omega)
        have hcp : ∃ j p, (0 < i → j = i - 1 ∧ p < L.getD i []) ∧ W.cell? ⟨bk, o + j, none⟩ = some (.string (mkS p)) := by
          by_cases h0 : 0 < i
          · refine ⟨i - 1, L.getD (i - 1) [], fun _ => ⟨rfl, ?_⟩, cellM (K.out (i - 1) (by omega)) HW.out⟩
            have := HUp.out ⟨i - 1, by omega⟩
            simp only [show i - 1 + 1 = i by omega] at this
            exact this
          · exact ⟨i, L.getD i [], fun h => absurd h h0, hct⟩
        obtain ⟨j, p, hjp, hcj⟩ := hcp
        generalize L.getD i [] = t at *
        have HMm := Lib.hid hmm
        have HKt := Lib.hid hkt
        have hte : ((mkS t).toList == (mkS x).toList) = decide (t = x) := by
          rw [toList_bs, toList_bs, bs_mkS, bs_mkS]
          by_cases h : t = x <;> simp [h]
        have HNext : Hid (∀ w5, Below W.heap.size W w5 → Below w2.heap.size w2 w5) := fun w5 hb => HW.out.trans (hb.mono HW.out.size)
        have HBW := Lib.hid (HB2.out.trans (HW.out.mono HB2.out.size))
        have HCt := Lib.hid hct
        have HCj := Lib.hid hcj
        clear hmm hkt
        generalize decide (x ∈ L.take i) = kn at *
        generalize decide (t = x) = e at *
        by_cases h0 : 0 < i
        · obtain ⟨hj, hlt2⟩ := hjp h0
          have hge : Op.bytesLess (mkS p).toList (mkS t).toList = true := by
            rw [toList_bs, toList_bs, bs_mkS, bs_mkS, bytesLess_eq, decide_eq_true hlt2]
          have m1 : IntKind.i64.wrap ((i : Int) - 1) = (j : Int) := by rw [IntWalk.i64_in _ (by omega)]; omega
          have m2 : (0 : Int) ≤ (j : Int) := by omega
          have m3 : (j : Int) < 9 := by omega
          have m4 : (0 : Int) < (i : Int) := by omega
          have m5 : (i : Int) < 9 := by omega
          have m6 : (0 : Int) ≤ (i : Int) := by omega
          clear hjp hj hlt2 h0
          cases kn <;> cases e
          all_goals
            go_wp2_with fail
            have hHeld0 : (fun Wz : World => Wz.cell? ⟨bk, o + i, none⟩ = some (.string (mkS t)) ∧ Wz.cell? ⟨bk, o + j, none⟩ = some (.string (mkS p)) ∧ Below w.heap.size w Wz) W.drew := ⟨HCt.out, HCj.out, HBW.out.drew⟩
            refine wp_region_held_drew (S := (fun Wz => Wz.cell? ⟨bk, o + i, none⟩ = some (.string (mkS t)) ∧ Wz.cell? ⟨bk, o + j, none⟩ = some (.string (mkS p)) ∧ Below w.heap.size w Wz)) (by kernel_rfl) hHeld0 (fun hHeld => ?_)
            refine wpAnyH_take (i := 0) (v := ?_) rfl (by kernel_rfl) (by kernel_rfl) (by kernel_rfl) (fun _ _ _ h => h) (Or.inl ⟨by kernel_rfl, ?_⟩) (by assumption) ?_
            case refine_2 => (intro Wz hSw; go_simp; try with_reducible rfl)
            try simp only [Act.put, List.getElem_toArray, List.getElem_cons_zero, List.setIfInBounds_toArray, List.set_cons_zero, List.set_cons_succ]
            refine wpAnyH_take (i := 1) (v := ?_) rfl (by kernel_rfl) (by kernel_rfl) (by kernel_rfl) (fun _ _ _ h => h) (Or.inl ⟨by kernel_rfl, ?_⟩) (by assumption) ?_
            case refine_2 => (intro Wz hSw; go_simp; try with_reducible rfl)
            try simp only [Act.put, List.getElem_toArray, List.getElem_cons_succ, List.getElem_cons_zero, List.setIfInBounds_toArray, List.set_cons_zero, List.set_cons_succ]
            refine wpAnyH_take (i := 2) (v := ?_) rfl (by kernel_rfl) (by kernel_rfl) (by kernel_rfl) (fun _ _ _ h => h) (Or.inl ⟨by kernel_rfl, ?_⟩) (by assumption) ?_
            case refine_2 => (intro Wz hSw; go_simp; try with_reducible rfl)
            try simp only [Act.put, List.getElem_toArray, List.getElem_cons_succ, List.getElem_cons_zero, List.setIfInBounds_toArray, List.set_cons_zero, List.set_cons_succ]
            refine wpAnyH_take (i := 3) (v := ?_) rfl (by kernel_rfl) (by kernel_rfl) (by kernel_rfl) (fun _ _ _ h => h) (Or.inl ⟨by kernel_rfl, ?_⟩) (by assumption) ?_
            case refine_2 => (intro Wz hSw; have u := hSw.1; go_simp; try with_reducible rfl)
            try simp only [Act.put, List.getElem_toArray, List.getElem_cons_succ, List.getElem_cons_zero, List.setIfInBounds_toArray, List.set_cons_zero, List.set_cons_succ]
            refine wpAnyH_ready (rs := [4]) (by kernel_rfl) (by simp) ?_
            refine AllReadyH.cons rfl (fun K hK => ?_) AllReadyH.nil
            go_simp
            refine (HK.out t _ HKt.out).mono ?_
            rintro e w5 ⟨rfl, hb5⟩
            have hHeld5 : (fun Wz : World => Wz.cell? ⟨bk, o + i, none⟩ = some (.string (mkS t)) ∧ Wz.cell? ⟨bk, o + j, none⟩ = some (.string (mkS p)) ∧ Below w.heap.size w Wz) w5 := ⟨cellM hHeld0.1 hb5, cellM hHeld0.2.1 hb5, hHeld0.2.2.trans (hb5.mono hHeld0.2.2.size)⟩
            have HB5 := Lib.hid hHeld5.2.2
            have C5 := Lib.hid hb5
            go_simp
            refine hK.out _ _ (by assumption) (fun hHeld2 => ?_)
            clear hK K hHeld2
            try simp only [Act.put, List.getElem_toArray, List.getElem_cons_succ, List.getElem_cons_zero, List.setIfInBounds_toArray, List.set_cons_zero, List.set_cons_succ]
            refine wpAnyH_take (i := 5) (v := ?_) rfl (by kernel_rfl) (by kernel_rfl) (by kernel_rfl) (fun _ _ _ h => h) (Or.inl ⟨by kernel_rfl, ?_⟩) (by assumption) ?_
            case refine_2 => (intro Wz hSw; go_simp; try with_reducible rfl)
            try simp only [Act.put, List.getElem_toArray, List.getElem_cons_succ, List.getElem_cons_zero, List.setIfInBounds_toArray, List.set_cons_zero, List.set_cons_succ]
            refine wpAnyH_take (i := 6) (v := ?_) rfl (by kernel_rfl) (by kernel_rfl) (by kernel_rfl) (fun _ _ _ h => h) (Or.inl ⟨by kernel_rfl, ?_⟩) (by assumption) ?_
            case refine_2 => (intro Wz hSw; go_simp; try with_reducible rfl)
            try simp only [Act.put, List.getElem_toArray, List.getElem_cons_succ, List.getElem_cons_zero, List.setIfInBounds_toArray, List.set_cons_zero, List.set_cons_succ]
            refine wpAnyH_take (i := 7) (v := ?_) rfl (by kernel_rfl) (by kernel_rfl) (by kernel_rfl) (fun _ _ _ h => h) (Or.inl ⟨by kernel_rfl, ?_⟩) (by assumption) ?_
            case refine_2 => (intro Wz hSw; go_simp; try with_reducible rfl)
            try simp only [Act.put, List.getElem_toArray, List.getElem_cons_succ, List.getElem_cons_zero, List.setIfInBounds_toArray, List.set_cons_zero, List.set_cons_succ]
            refine wpAnyH_take (i := 8) (v := .bool true) rfl (by kernel_rfl) (by kernel_rfl) (by kernel_rfl) (fun _ _ _ h => h) (Or.inl ⟨by kernel_rfl, ?_⟩) (by assumption) ?_
            case refine_1 => (intro Wz hSw; have u2 : decide (0 < i) = true := decide_eq_true (by omega); go_simp; try with_reducible rfl)
            try simp only [Act.put, List.getElem_toArray, List.getElem_cons_succ, List.getElem_cons_zero, List.setIfInBounds_toArray, List.set_cons_zero, List.set_cons_succ]
            refine wpAnyH_take (i := 9) (v := ?_) rfl (by kernel_rfl) (by kernel_rfl) (by kernel_rfl) (fun _ _ _ h => h) (Or.inl ⟨by kernel_rfl, ?_⟩) (by assumption) ?_
            case refine_2 => (intro Wz hSw; go_simp; try with_reducible rfl)
            try simp only [Act.put, List.getElem_toArray, List.getElem_cons_succ, List.getElem_cons_zero, List.setIfInBounds_toArray, List.set_cons_zero, List.set_cons_succ]
            refine wpAnyH_take (i := 10) (v := ?_) rfl (by kernel_rfl) (by kernel_rfl) (by kernel_rfl) (fun _ _ _ h => h) (Or.inl ⟨by kernel_rfl, ?_⟩) (by assumption) ?_
            case refine_2 => (intro Wz hSw; go_simp; try with_reducible rfl)
            try simp only [Act.put, List.getElem_toArray, List.getElem_cons_succ, List.getElem_cons_zero, List.setIfInBounds_toArray, List.set_cons_zero, List.set_cons_succ]
            refine wpAnyH_take (i := 11) (v := ?_) rfl (by kernel_rfl) (by kernel_rfl) (by kernel_rfl) (fun _ _ _ h => h) (Or.inl ⟨by kernel_rfl, ?_⟩) (by assumption) ?_
            case refine_2 => (intro Wz hSw; go_simp; try with_reducible rfl)
            try simp only [Act.put, List.getElem_toArray, List.getElem_cons_succ, List.getElem_cons_zero, List.setIfInBounds_toArray, List.set_cons_zero, List.set_cons_succ]
            refine wpAnyH_take (i := 12) (v := ?_) rfl (by kernel_rfl) (by kernel_rfl) (by kernel_rfl) (fun _ _ _ h => h) (Or.inl ⟨by kernel_rfl, ?_⟩) (by assumption) ?_
            case refine_2 => (intro Wz hSw; go_simp; try with_reducible rfl)
            try simp only [Act.put, List.getElem_toArray, List.getElem_cons_succ, List.getElem_cons_zero, List.setIfInBounds_toArray, List.set_cons_zero, List.set_cons_succ]
            refine wpAnyH_take (i := 13) (v := ?_) rfl (by kernel_rfl) (by kernel_rfl) (by kernel_rfl) (fun _ _ _ h => h) (Or.inl ⟨by kernel_rfl, ?_⟩) (by assumption) ?_
            case refine_2 => (intro Wz hSw; go_simp; try with_reducible rfl)
            try simp only [Act.put, List.getElem_toArray, List.getElem_cons_succ, List.getElem_cons_zero, List.setIfInBounds_toArray, List.set_cons_zero, List.set_cons_succ]
            refine wpAnyH_take (i := 14) (v := ?_) rfl (by kernel_rfl) (by kernel_rfl) (by kernel_rfl) (fun _ _ _ h => h) (Or.inl ⟨by kernel_rfl, ?_⟩) (by assumption) ?_
            case refine_2 => (intro Wz hSw; have u := hSw.2.1; go_simp; try with_reducible rfl)
            try simp only [Act.put, List.getElem_toArray, List.getElem_cons_succ, List.getElem_cons_zero, List.setIfInBounds_toArray, List.set_cons_zero, List.set_cons_succ]
            refine wpAnyH_take (i := 15) (v := ?_) rfl (by kernel_rfl) (by kernel_rfl) (by kernel_rfl) (fun _ _ _ h => h) (Or.inl ⟨by kernel_rfl, ?_⟩) (by assumption) ?_
            case refine_2 => (intro Wz hSw; go_simp; try with_reducible rfl)
            try simp only [Act.put, List.getElem_toArray, List.getElem_cons_succ, List.getElem_cons_zero, List.setIfInBounds_toArray, List.set_cons_zero, List.set_cons_succ]
            refine wpAnyH_take (i := 16) (v := ?_) rfl (by kernel_rfl) (by kernel_rfl) (by kernel_rfl) (fun _ _ _ h => h) (Or.inl ⟨by kernel_rfl, ?_⟩) (by assumption) ?_
            case refine_2 => (intro Wz hSw; go_simp; try with_reducible rfl)
            try simp only [Act.put, List.getElem_toArray, List.getElem_cons_succ, List.getElem_cons_zero, List.setIfInBounds_toArray, List.set_cons_zero, List.set_cons_succ]
            refine wpAnyH_take (i := 17) (v := ?_) rfl (by kernel_rfl) (by kernel_rfl) (by kernel_rfl) (fun _ _ _ h => h) (Or.inl ⟨by kernel_rfl, ?_⟩) (by assumption) ?_
            case refine_2 => (intro Wz hSw; go_simp; try with_reducible rfl)
            try simp only [Act.put, List.getElem_toArray, List.getElem_cons_succ, List.getElem_cons_zero, List.setIfInBounds_toArray, List.set_cons_zero, List.set_cons_succ]
            refine wpAnyH_take (i := 18) (v := ?_) rfl (by kernel_rfl) (by kernel_rfl) (by kernel_rfl) (fun _ _ _ h => h) (Or.inl ⟨by kernel_rfl, ?_⟩) (by assumption) ?_
            case refine_2 => (intro Wz hSw; have u := hSw.1; go_simp; try with_reducible rfl)
            try simp only [Act.put, List.getElem_toArray, List.getElem_cons_succ, List.getElem_cons_zero, List.setIfInBounds_toArray, List.set_cons_zero, List.set_cons_succ]
            refine wpAnyH_take (i := 19) (v := ?_) rfl (by kernel_rfl) (by kernel_rfl) (by kernel_rfl) (fun _ _ _ h => h) (Or.inl ⟨by kernel_rfl, ?_⟩) (by assumption) ?_
            case refine_2 => (intro Wz hSw; go_simp; try with_reducible rfl)
            try simp only [Act.put, List.getElem_toArray, List.getElem_cons_succ, List.getElem_cons_zero, List.setIfInBounds_toArray, List.set_cons_zero, List.set_cons_succ]
            refine wpAnyH_take (i := 20) (v := ?_) rfl (by kernel_rfl) (by kernel_rfl) (by kernel_rfl) (fun _ _ _ h => h) (Or.inl ⟨by kernel_rfl, ?_⟩) (by assumption) ?_
            case refine_2 => (intro Wz hSw; go_simp; try with_reducible rfl)
            try simp only [Act.put, List.getElem_toArray, List.getElem_cons_succ, List.getElem_cons_zero, List.setIfInBounds_toArray, List.set_cons_zero, List.set_cons_succ]
            refine wpAnyH_take (i := 21) (v := ?_) rfl (by kernel_rfl) (by kernel_rfl) (by kernel_rfl) (fun _ _ _ h => h) (Or.inl ⟨by kernel_rfl, ?_⟩) (by assumption) ?_
            case refine_2 => (intro Wz hSw; go_simp; try with_reducible rfl)
            try simp only [Act.put, List.getElem_toArray, List.getElem_cons_succ, List.getElem_cons_zero, List.setIfInBounds_toArray, List.set_cons_zero, List.set_cons_succ]
            refine wpAnyH_done (by kernel_rfl) ?_ _
            go_wp2_with fail
            refine ⟨⟨i + 1, hlt, by go_num, by rw [HMm.out]; rfl, HNext.out _ ((Below.refl _ _).drew.trans C5.out)⟩, by simp [RowKit.intOf]; omega⟩
        · have m4 : ¬ (0 : Int) < (i : Int) := by omega
          have m5 : (i : Int) < 9 := by omega
          have m6 : (0 : Int) ≤ (i : Int) := by omega
          clear hjp h0
          cases kn <;> cases e
          all_goals
            go_wp2_with fail
            have hHeld0 : (fun Wz : World => Wz.cell? ⟨bk, o + i, none⟩ = some (.string (mkS t)) ∧ Wz.cell? ⟨bk, o + j, none⟩ = some (.string (mkS p)) ∧ Below w.heap.size w Wz) W.drew := ⟨HCt.out, HCj.out, HBW.out.drew⟩
            refine wp_region_held_drew (S := (fun Wz => Wz.cell? ⟨bk, o + i, none⟩ = some (.string (mkS t)) ∧ Wz.cell? ⟨bk, o + j, none⟩ = some (.string (mkS p)) ∧ Below w.heap.size w Wz)) (by kernel_rfl) hHeld0 (fun hHeld => ?_)
            refine wpAnyH_take (i := 0) (v := ?_) rfl (by kernel_rfl) (by kernel_rfl) (by kernel_rfl) (fun _ _ _ h => h) (Or.inl ⟨by kernel_rfl, ?_⟩) (by assumption) ?_
            case refine_2 => (intro Wz hSw; go_simp; try with_reducible rfl)
            try simp only [Act.put, List.getElem_toArray, List.getElem_cons_zero, List.setIfInBounds_toArray, List.set_cons_zero, List.set_cons_succ]
            refine wpAnyH_take (i := 1) (v := ?_) rfl (by kernel_rfl) (by kernel_rfl) (by kernel_rfl) (fun _ _ _ h => h) (Or.inl ⟨by kernel_rfl, ?_⟩) (by assumption) ?_
            case refine_2 => (intro Wz hSw; go_simp; try with_reducible rfl)
            try simp only [Act.put, List.getElem_toArray, List.getElem_cons_succ, List.getElem_cons_zero, List.setIfInBounds_toArray, List.set_cons_zero, List.set_cons_succ]
            refine wpAnyH_take (i := 2) (v := ?_) rfl (by kernel_rfl) (by kernel_rfl) (by kernel_rfl) (fun _ _ _ h => h) (Or.inl ⟨by kernel_rfl, ?_⟩) (by assumption) ?_
            case refine_2 => (intro Wz hSw; go_simp; try with_reducible rfl)
            try simp only [Act.put, List.getElem_toArray, List.getElem_cons_succ, List.getElem_cons_zero, List.setIfInBounds_toArray, List.set_cons_zero, List.set_cons_succ]
            refine wpAnyH_take (i := 3) (v := ?_) rfl (by kernel_rfl) (by kernel_rfl) (by kernel_rfl) (fun _ _ _ h => h) (Or.inl ⟨by kernel_rfl, ?_⟩) (by assumption) ?_
            case refine_2 => (intro Wz hSw; have u := hSw.1; go_simp; try with_reducible rfl)
            try simp only [Act.put, List.getElem_toArray, List.getElem_cons_succ, List.getElem_cons_zero, List.setIfInBounds_toArray, List.set_cons_zero, List.set_cons_succ]
            refine wpAnyH_ready (rs := [4]) (by kernel_rfl) (by simp) ?_
            refine AllReadyH.cons rfl (fun K hK => ?_) AllReadyH.nil
            go_simp
            refine (HK.out t _ HKt.out).mono ?_
            rintro e w5 ⟨rfl, hb5⟩
            have hHeld5 : (fun Wz : World => Wz.cell? ⟨bk, o + i, none⟩ = some (.string (mkS t)) ∧ Wz.cell? ⟨bk, o + j, none⟩ = some (.string (mkS p)) ∧ Below w.heap.size w Wz) w5 := ⟨cellM hHeld0.1 hb5, cellM hHeld0.2.1 hb5, hHeld0.2.2.trans (hb5.mono hHeld0.2.2.size)⟩
            have HB5 := Lib.hid hHeld5.2.2
            have C5 := Lib.hid hb5
            go_simp
            refine hK.out _ _ (by assumption) (fun hHeld2 => ?_)
            clear hK K hHeld2
            try simp only [Act.put, List.getElem_toArray, List.getElem_cons_succ, List.getElem_cons_zero, List.setIfInBounds_toArray, List.set_cons_zero, List.set_cons_succ]
            refine wpAnyH_take (i := 5) (v := ?_) rfl (by kernel_rfl) (by kernel_rfl) (by kernel_rfl) (fun _ _ _ h => h) (Or.inl ⟨by kernel_rfl, ?_⟩) (by assumption) ?_
            case refine_2 => (intro Wz hSw; go_simp; try with_reducible rfl)
            try simp only [Act.put, List.getElem_toArray, List.getElem_cons_succ, List.getElem_cons_zero, List.setIfInBounds_toArray, List.set_cons_zero, List.set_cons_succ]
            refine wpAnyH_take (i := 6) (v := ?_) rfl (by kernel_rfl) (by kernel_rfl) (by kernel_rfl) (fun _ _ _ h => h) (Or.inl ⟨by kernel_rfl, ?_⟩) (by assumption) ?_
            case refine_2 => (intro Wz hSw; go_simp; try with_reducible rfl)
            try simp only [Act.put, List.getElem_toArray, List.getElem_cons_succ, List.getElem_cons_zero, List.setIfInBounds_toArray, List.set_cons_zero, List.set_cons_succ]
            refine wpAnyH_take (i := 7) (v := ?_) rfl (by kernel_rfl) (by kernel_rfl) (by kernel_rfl) (fun _ _ _ h => h) (Or.inl ⟨by kernel_rfl, ?_⟩) (by assumption) ?_
            case refine_2 => (intro Wz hSw; go_simp; try with_reducible rfl)
            try simp only [Act.put, List.getElem_toArray, List.getElem_cons_succ, List.getElem_cons_zero, List.setIfInBounds_toArray, List.set_cons_zero, List.set_cons_succ]
            refine wpAnyH_take (i := 8) (v := .bool false) rfl (by kernel_rfl) (by kernel_rfl) (by kernel_rfl) (fun _ _ _ h => h) (Or.inl ⟨by kernel_rfl, ?_⟩) (by assumption) ?_
            case refine_1 => (intro Wz hSw; have u2 : decide (0 < i) = false := decide_eq_false (by omega); go_simp; try with_reducible rfl)
            try simp only [Act.put, List.getElem_toArray, List.getElem_cons_succ, List.getElem_cons_zero, List.setIfInBounds_toArray, List.set_cons_zero, List.set_cons_succ]
            refine wpAnyH_take (i := 9) (v := ?_) rfl (by kernel_rfl) (by kernel_rfl) (by kernel_rfl) (fun _ _ _ h => h) (Or.inl ⟨by kernel_rfl, ?_⟩) (by assumption) ?_
            case refine_2 => (intro Wz hSw; go_simp; try with_reducible rfl)
            try simp only [Act.put, List.getElem_toArray, List.getElem_cons_succ, List.getElem_cons_zero, List.setIfInBounds_toArray, List.set_cons_zero, List.set_cons_succ]
            refine wpAnyH_take (i := 10) (v := undef) rfl (by kernel_rfl) (by kernel_rfl) (by kernel_rfl) (fun _ _ _ h => h) (Or.inr ⟨by kernel_rfl, rfl⟩) (by assumption) ?_
            try simp only [Act.put, List.getElem_toArray, List.getElem_cons_succ, List.getElem_cons_zero, List.setIfInBounds_toArray, List.set_cons_zero, List.set_cons_succ]
            refine wpAnyH_take (i := 11) (v := undef) rfl (by kernel_rfl) (by kernel_rfl) (by kernel_rfl) (fun _ _ _ h => h) (Or.inr ⟨by kernel_rfl, rfl⟩) (by assumption) ?_
            try simp only [Act.put, List.getElem_toArray, List.getElem_cons_succ, List.getElem_cons_zero, List.setIfInBounds_toArray, List.set_cons_zero, List.set_cons_succ]
            refine wpAnyH_take (i := 12) (v := undef) rfl (by kernel_rfl) (by kernel_rfl) (by kernel_rfl) (fun _ _ _ h => h) (Or.inr ⟨by kernel_rfl, rfl⟩) (by assumption) ?_
            try simp only [Act.put, List.getElem_toArray, List.getElem_cons_succ, List.getElem_cons_zero, List.setIfInBounds_toArray, List.set_cons_zero, List.set_cons_succ]
            refine wpAnyH_take (i := 13) (v := undef) rfl (by kernel_rfl) (by kernel_rfl) (by kernel_rfl) (fun _ _ _ h => h) (Or.inr ⟨by kernel_rfl, rfl⟩) (by assumption) ?_
            try simp only [Act.put, List.getElem_toArray, List.getElem_cons_succ, List.getElem_cons_zero, List.setIfInBounds_toArray, List.set_cons_zero, List.set_cons_succ]
            refine wpAnyH_take (i := 14) (v := undef) rfl (by kernel_rfl) (by kernel_rfl) (by kernel_rfl) (fun _ _ _ h => h) (Or.inr ⟨by kernel_rfl, rfl⟩) (by assumption) ?_
            try simp only [Act.put, List.getElem_toArray, List.getElem_cons_succ, List.getElem_cons_zero, List.setIfInBounds_toArray, List.set_cons_zero, List.set_cons_succ]
            refine wpAnyH_take (i := 15) (v := undef) rfl (by kernel_rfl) (by kernel_rfl) (by kernel_rfl) (fun _ _ _ h => h) (Or.inr ⟨by kernel_rfl, rfl⟩) (by assumption) ?_
            try simp only [Act.put, List.getElem_toArray, List.getElem_cons_succ, List.getElem_cons_zero, List.setIfInBounds_toArray, List.set_cons_zero, List.set_cons_succ]
            refine wpAnyH_take (i := 16) (v := undef) rfl (by kernel_rfl) (by kernel_rfl) (by kernel_rfl) (fun _ _ _ h => h) (Or.inr ⟨by kernel_rfl, rfl⟩) (by assumption) ?_
            try simp only [Act.put, List.getElem_toArray, List.getElem_cons_succ, List.getElem_cons_zero, List.setIfInBounds_toArray, List.set_cons_zero, List.set_cons_succ]
            refine wpAnyH_take (i := 17) (v := undef) rfl (by kernel_rfl) (by kernel_rfl) (by kernel_rfl) (fun _ _ _ h => h) (Or.inr ⟨by kernel_rfl, rfl⟩) (by assumption) ?_
            try simp only [Act.put, List.getElem_toArray, List.getElem_cons_succ, List.getElem_cons_zero, List.setIfInBounds_toArray, List.set_cons_zero, List.set_cons_succ]
            refine wpAnyH_take (i := 18) (v := undef) rfl (by kernel_rfl) (by kernel_rfl) (by kernel_rfl) (fun _ _ _ h => h) (Or.inr ⟨by kernel_rfl, rfl⟩) (by assumption) ?_
            try simp only [Act.put, List.getElem_toArray, List.getElem_cons_succ, List.getElem_cons_zero, List.setIfInBounds_toArray, List.set_cons_zero, List.set_cons_succ]
            refine wpAnyH_take (i := 19) (v := undef) rfl (by kernel_rfl) (by kernel_rfl) (by kernel_rfl) (fun _ _ _ h => h) (Or.inr ⟨by kernel_rfl, rfl⟩) (by assumption) ?_
            try simp only [Act.put, List.getElem_toArray, List.getElem_cons_succ, List.getElem_cons_zero, List.setIfInBounds_toArray, List.set_cons_zero, List.set_cons_succ]
            refine wpAnyH_take (i := 20) (v := ?_) rfl (by kernel_rfl) (by kernel_rfl) (by kernel_rfl) (fun _ _ _ h => h) (Or.inl ⟨by kernel_rfl, ?_⟩) (by assumption) ?_
            case refine_2 => (intro Wz hSw; go_simp; try with_reducible rfl)
            try simp only [Act.put, List.getElem_toArray, List.getElem_cons_succ, List.getElem_cons_zero, List.setIfInBounds_toArray, List.set_cons_zero, List.set_cons_succ]
            refine wpAnyH_take (i := 21) (v := ?_) rfl (by kernel_rfl) (by kernel_rfl) (by kernel_rfl) (fun _ _ _ h => h) (Or.inl ⟨by kernel_rfl, ?_⟩) (by assumption) ?_
            case refine_2 => (intro Wz hSw; go_simp; try with_reducible rfl)
            try simp only [Act.put, List.getElem_toArray, List.getElem_cons_succ, List.getElem_cons_zero, List.setIfInBounds_toArray, List.set_cons_zero, List.set_cons_succ]
            refine wpAnyH_done (by kernel_rfl) ?_ _
            go_wp2_with fail
            refine ⟨⟨i + 1, hlt, by go_num, by rw [HMm.out]; rfl, HNext.out _ ((Below.refl _ _).drew.trans C5.out)⟩, by simp [RowKit.intOf]; omega⟩
      · obtain rfl : i = 9 := by omega
        have hq : decide (x ∈ L.take 9) = q := by rw [HKn.out, List.take_of_length_le (by rw [HLe.out]; exact Nat.le_refl _)]
        have HB3 := Lib.hid (HB2.out.trans (HW.out.mono HB2.out.size))
        rw [hq]
        clear hq hi hlt HW
        rcases HCh.out with ⟨rfl, rfl, rfl, rfl⟩ | ⟨rfl, rfl, rfl, rfl⟩ | ⟨rfl, rfl, rfl, rfl⟩ | ⟨rfl, rfl, rfl, rfl⟩ | ⟨rfl, rfl, rfl, rfl⟩
        · rcases HSt.out with ⟨rfl, rfl, rfl, rfl⟩ | ⟨rfl, rfl, rfl, rfl⟩ | ⟨rfl, rfl⟩
          · go_wp2_with fail
            refine (HC.out _).mono ?_
            rintro e w2 ⟨rfl, hb2⟩
            have HB4 := Lib.hid (HB3.out.trans (hb2.mono HB3.out.size))
            clear hb2 HB3
            go_wp2_with fail
            refine (HSa.out _).mono ?_
            rintro e w2 ⟨rfl, hb2⟩
            have HB5 := Lib.hid (HB4.out.trans (hb2.mono HB4.out.size))
            clear hb2 HB4
            go_wp2_with fail
            refine (HI.out _).mono ?_
            rintro e w2 ⟨rfl, hb2⟩
            have HB6 := Lib.hid (HB5.out.trans (hb2.mono HB5.out.size))
            clear hb2 HB5
            go_wp2_with fail
            refine (HBr.out _).mono ?_
            rintro e w2 ⟨rfl, hb2⟩
            have HB7 := Lib.hid (HB6.out.trans (hb2.mono HB6.out.size))
            clear hb2 HB6
            go_wp2_with fail
            refine (HF.out _).mono ?_
            rintro e w2 ⟨rfl, rfl⟩
            go_wp2_with fail
            refine (HH.out _).mono ?_
            rintro e w2 ⟨rfl, hb2⟩
            have HB8 := Lib.hid (HB7.out.trans (hb2.mono HB7.out.size))
            clear hb2 HB7
            go_wp2_with fail
            refine (HU.out _).mono ?_
            rintro e w2 ⟨rfl, hb2⟩
            have HB9 := Lib.hid (HB8.out.trans (hb2.mono HB8.out.size))
            clear hb2 HB8
            go_wp2_with fail
            refine (HQ.out _).mono ?_
            rintro e w2 ⟨rfl, hb2⟩
            have HB10 := Lib.hid (HB9.out.trans (hb2.mono HB9.out.size))
            clear hb2 HB9
            go_wp2_with fail
            refine (HH.out _).mono ?_
            rintro e w2 ⟨rfl, hb2⟩
            have HB11 := Lib.hid (HB10.out.trans (hb2.mono HB10.out.size))
            clear hb2 HB10
            go_wp2_with fail
            refine (HU.out _).mono ?_
            rintro e w2 ⟨rfl, hb2⟩
            have HB12 := Lib.hid (HB11.out.trans (hb2.mono HB11.out.size))
            clear hb2 HB11
            go_wp2_with fail
            go_ret
            exact ⟨rfl, HB12.out⟩
          · go_wp2_with fail
            refine (HC.out _).mono ?_
            rintro e w2 ⟨rfl, hb2⟩
            have HB4 := Lib.hid (HB3.out.trans (hb2.mono HB3.out.size))
            clear hb2 HB3
            go_wp2_with fail
            refine (HSa.out _).mono ?_
            rintro e w2 ⟨rfl, hb2⟩
            have HB5 := Lib.hid (HB4.out.trans (hb2.mono HB4.out.size))
            clear hb2 HB4
            go_wp2_with fail
            refine (HI.out _).mono ?_
            rintro e w2 ⟨rfl, hb2⟩
            have HB6 := Lib.hid (HB5.out.trans (hb2.mono HB5.out.size))
            clear hb2 HB5
            go_wp2_with fail
            refine (HBr.out _).mono ?_
            rintro e w2 ⟨rfl, hb2⟩
            have HB7 := Lib.hid (HB6.out.trans (hb2.mono HB6.out.size))
            clear hb2 HB6
            go_wp2_with fail
            refine (HQ.out _).mono ?_
            rintro e w2 ⟨rfl, hb2⟩
            have HB8 := Lib.hid (HB7.out.trans (hb2.mono HB7.out.size))
            clear hb2 HB7
            go_wp2_with fail
            refine (HH.out _).mono ?_
            rintro e w2 ⟨rfl, hb2⟩
            have HB9 := Lib.hid (HB8.out.trans (hb2.mono HB8.out.size))
            clear hb2 HB8
            go_wp2_with fail
            refine (HU.out _).mono ?_
            rintro e w2 ⟨rfl, hb2⟩
            have HB10 := Lib.hid (HB9.out.trans (hb2.mono HB9.out.size))
            clear hb2 HB9
            go_wp2_with fail
            go_ret
            exact ⟨rfl, HB10.out⟩
          · cases h <;> cases u
            · go_wp2_with fail
              refine (HC.out _).mono ?_
              rintro e w2 ⟨rfl, hb2⟩
              have HB4 := Lib.hid (HB3.out.trans (hb2.mono HB3.out.size))
              clear hb2 HB3
              go_wp2_with fail
              refine (HSa.out _).mono ?_
              rintro e w2 ⟨rfl, hb2⟩
              have HB5 := Lib.hid (HB4.out.trans (hb2.mono HB4.out.size))
              clear hb2 HB4
              go_wp2_with fail
              refine (HI.out _).mono ?_
              rintro e w2 ⟨rfl, hb2⟩
              have HB6 := Lib.hid (HB5.out.trans (hb2.mono HB5.out.size))
              clear hb2 HB5
              go_wp2_with fail
              refine (HBr.out _).mono ?_
              rintro e w2 ⟨rfl, hb2⟩
              have HB7 := Lib.hid (HB6.out.trans (hb2.mono HB6.out.size))
              clear hb2 HB6
              go_wp2_with fail
              refine (HQ.out _).mono ?_
              rintro e w2 ⟨rfl, hb2⟩
              have HB8 := Lib.hid (HB7.out.trans (hb2.mono HB7.out.size))
              clear hb2 HB7
              go_wp2_with fail
              refine (HH.out _).mono ?_
              rintro e w2 ⟨rfl, hb2⟩
              have HB9 := Lib.hid (HB8.out.trans (hb2.mono HB8.out.size))
              clear hb2 HB8
              go_wp2_with fail
              refine (HU.out _).mono ?_
              rintro e w2 ⟨rfl, hb2⟩
              have HB10 := Lib.hid (HB9.out.trans (hb2.mono HB9.out.size))
              clear hb2 HB9
              go_wp2_with fail
              go_ret
              exact ⟨rfl, HB10.out⟩
            · go_wp2_with fail
              refine (HC.out _).mono ?_
              rintro e w2 ⟨rfl, hb2⟩
              have HB4 := Lib.hid (HB3.out.trans (hb2.mono HB3.out.size))
              clear hb2 HB3
              go_wp2_with fail
              refine (HSa.out _).mono ?_
              rintro e w2 ⟨rfl, hb2⟩
              have HB5 := Lib.hid (HB4.out.trans (hb2.mono HB4.out.size))
              clear hb2 HB4
              go_wp2_with fail
              refine (HI.out _).mono ?_
              rintro e w2 ⟨rfl, hb2⟩
              have HB6 := Lib.hid (HB5.out.trans (hb2.mono HB5.out.size))
              clear hb2 HB5
              go_wp2_with fail
              refine (HBr.out _).mono ?_
              rintro e w2 ⟨rfl, hb2⟩
              have HB7 := Lib.hid (HB6.out.trans (hb2.mono HB6.out.size))
              clear hb2 HB6
              go_wp2_with fail
              refine (HQ.out _).mono ?_
              rintro e w2 ⟨rfl, hb2⟩
              have HB8 := Lib.hid (HB7.out.trans (hb2.mono HB7.out.size))
              clear hb2 HB7
              go_wp2_with fail
              refine (HH.out _).mono ?_
              rintro e w2 ⟨rfl, hb2⟩
              have HB9 := Lib.hid (HB8.out.trans (hb2.mono HB8.out.size))
              clear hb2 HB8
              go_wp2_with fail
              refine (HU.out _).mono ?_
              rintro e w2 ⟨rfl, hb2⟩
              have HB10 := Lib.hid (HB9.out.trans (hb2.mono HB9.out.size))
              clear hb2 HB9
              go_wp2_with fail
              refine (HF.out _).mono ?_
              rintro e w2 ⟨rfl, rfl⟩
              go_wp2_with fail
              go_ret
              exact ⟨rfl, HB10.out⟩
            · go_wp2_with fail
              refine (HC.out _).mono ?_
              rintro e w2 ⟨rfl, hb2⟩
              have HB4 := Lib.hid (HB3.out.trans (hb2.mono HB3.out.size))
              clear hb2 HB3
              go_wp2_with fail
              refine (HSa.out _).mono ?_
              rintro e w2 ⟨rfl, hb2⟩
              have HB5 := Lib.hid (HB4.out.trans (hb2.mono HB4.out.size))
              clear hb2 HB4
              go_wp2_with fail
              refine (HI.out _).mono ?_
              rintro e w2 ⟨rfl, hb2⟩
              have HB6 := Lib.hid (HB5.out.trans (hb2.mono HB5.out.size))
              clear hb2 HB5
              go_wp2_with fail
              refine (HBr.out _).mono ?_
              rintro e w2 ⟨rfl, hb2⟩
              have HB7 := Lib.hid (HB6.out.trans (hb2.mono HB6.out.size))
              clear hb2 HB6
              go_wp2_with fail
              refine (HQ.out _).mono ?_
              rintro e w2 ⟨rfl, hb2⟩
              have HB8 := Lib.hid (HB7.out.trans (hb2.mono HB7.out.size))
              clear hb2 HB7
              go_wp2_with fail
              refine (HH.out _).mono ?_
              rintro e w2 ⟨rfl, hb2⟩
              have HB9 := Lib.hid (HB8.out.trans (hb2.mono HB8.out.size))
              clear hb2 HB8
              go_wp2_with fail
              refine (HF.out _).mono ?_
              rintro e w2 ⟨rfl, rfl⟩
              go_wp2_with fail
              refine (HU.out _).mono ?_
              rintro e w2 ⟨rfl, hb2⟩
              have HB10 := Lib.hid (HB9.out.trans (hb2.mono HB9.out.size))
              clear hb2 HB9
              go_wp2_with fail
              go_ret
              exact ⟨rfl, HB10.out⟩
            · go_wp2_with fail
              refine (HC.out _).mono ?_
              rintro e w2 ⟨rfl, hb2⟩
              have HB4 := Lib.hid (HB3.out.trans (hb2.mono HB3.out.size))
              clear hb2 HB3
              go_wp2_with fail
              refine (HSa.out _).mono ?_
              rintro e w2 ⟨rfl, hb2⟩
              have HB5 := Lib.hid (HB4.out.trans (hb2.mono HB4.out.size))
              clear hb2 HB4
              go_wp2_with fail
              refine (HI.out _).mono ?_
              rintro e w2 ⟨rfl, hb2⟩
              have HB6 := Lib.hid (HB5.out.trans (hb2.mono HB5.out.size))
              clear hb2 HB5
              go_wp2_with fail
              refine (HBr.out _).mono ?_
              rintro e w2 ⟨rfl, hb2⟩
              have HB7 := Lib.hid (HB6.out.trans (hb2.mono HB6.out.size))
              clear hb2 HB6
              go_wp2_with fail
              refine (HQ.out _).mono ?_
              rintro e w2 ⟨rfl, hb2⟩
              have HB8 := Lib.hid (HB7.out.trans (hb2.mono HB7.out.size))
              clear hb2 HB7
              go_wp2_with fail
              refine (HH.out _).mono ?_
              rintro e w2 ⟨rfl, hb2⟩
              have HB9 := Lib.hid (HB8.out.trans (hb2.mono HB8.out.size))
              clear hb2 HB8
              go_wp2_with fail
              refine (HF.out _).mono ?_
              rintro e w2 ⟨rfl, rfl⟩
              go_wp2_with fail
              refine (HU.out _).mono ?_
              rintro e w2 ⟨rfl, hb2⟩
              have HB10 := Lib.hid (HB9.out.trans (hb2.mono HB9.out.size))
              clear hb2 HB9
              go_wp2_with fail
              refine (HF.out _).mono ?_
              rintro e w2 ⟨rfl, rfl⟩
              go_wp2_with fail
              go_ret
              exact ⟨rfl, HB10.out⟩
        · rcases HSt.out with ⟨rfl, rfl, rfl, rfl⟩ | ⟨rfl, rfl, rfl, rfl⟩ | ⟨rfl, rfl⟩
          · go_wp2_with fail
            refine (HC.out _).mono ?_
            rintro e w2 ⟨rfl, hb2⟩
            have HB4 := Lib.hid (HB3.out.trans (hb2.mono HB3.out.size))
            clear hb2 HB3
            go_wp2_with fail
            refine (HSa.out _).mono ?_
            rintro e w2 ⟨rfl, hb2⟩
            have HB5 := Lib.hid (HB4.out.trans (hb2.mono HB4.out.size))
            clear hb2 HB4
            go_wp2_with fail
            refine (HI.out _).mono ?_
            rintro e w2 ⟨rfl, hb2⟩
            have HB6 := Lib.hid (HB5.out.trans (hb2.mono HB5.out.size))
            clear hb2 HB5
            go_wp2_with fail
            refine (HBr.out _).mono ?_
            rintro e w2 ⟨rfl, hb2⟩
            have HB7 := Lib.hid (HB6.out.trans (hb2.mono HB6.out.size))
            clear hb2 HB6
            go_wp2_with fail
            refine (HF.out _).mono ?_
            rintro e w2 ⟨rfl, rfl⟩
            go_wp2_with fail
            refine (HH.out _).mono ?_
            rintro e w2 ⟨rfl, hb2⟩
            have HB8 := Lib.hid (HB7.out.trans (hb2.mono HB7.out.size))
            clear hb2 HB7
            go_wp2_with fail
            refine (HU.out _).mono ?_
            rintro e w2 ⟨rfl, hb2⟩
            have HB9 := Lib.hid (HB8.out.trans (hb2.mono HB8.out.size))
            clear hb2 HB8
            go_wp2_with fail
            refine (HQ.out _).mono ?_
            rintro e w2 ⟨rfl, hb2⟩
            have HB10 := Lib.hid (HB9.out.trans (hb2.mono HB9.out.size))
            clear hb2 HB9
            go_wp2_with fail
            refine (HH.out _).mono ?_
            rintro e w2 ⟨rfl, hb2⟩
            have HB11 := Lib.hid (HB10.out.trans (hb2.mono HB10.out.size))
            clear hb2 HB10
            go_wp2_with fail
            refine (HU.out _).mono ?_
            rintro e w2 ⟨rfl, hb2⟩
            have HB12 := Lib.hid (HB11.out.trans (hb2.mono HB11.out.size))
            clear hb2 HB11
            go_wp2_with fail
            go_ret
            exact ⟨rfl, HB12.out⟩
          · go_wp2_with fail
            refine (HC.out _).mono ?_
            rintro e w2 ⟨rfl, hb2⟩
            have HB4 := Lib.hid (HB3.out.trans (hb2.mono HB3.out.size))
            clear hb2 HB3
            go_wp2_with fail
            refine (HSa.out _).mono ?_
            rintro e w2 ⟨rfl, hb2⟩
            have HB5 := Lib.hid (HB4.out.trans (hb2.mono HB4.out.size))
            clear hb2 HB4
            go_wp2_with fail
            refine (HI.out _).mono ?_
            rintro e w2 ⟨rfl, hb2⟩
            have HB6 := Lib.hid (HB5.out.trans (hb2.mono HB5.out.size))
            clear hb2 HB5
            go_wp2_with fail
            refine (HBr.out _).mono ?_
            rintro e w2 ⟨rfl, hb2⟩
            have HB7 := Lib.hid (HB6.out.trans (hb2.mono HB6.out.size))
            clear hb2 HB6
            go_wp2_with fail
            refine (HQ.out _).mono ?_
            rintro e w2 ⟨rfl, hb2⟩
            have HB8 := Lib.hid (HB7.out.trans (hb2.mono HB7.out.size))
            clear hb2 HB7
            go_wp2_with fail
            refine (HH.out _).mono ?_
            rintro e w2 ⟨rfl, hb2⟩
            have HB9 := Lib.hid (HB8.out.trans (hb2.mono HB8.out.size))
            clear hb2 HB8
            go_wp2_with fail
            refine (HU.out _).mono ?_
            rintro e w2 ⟨rfl, hb2⟩
            have HB10 := Lib.hid (HB9.out.trans (hb2.mono HB9.out.size))
            clear hb2 HB9
            go_wp2_with fail
            go_ret
            exact ⟨rfl, HB10.out⟩
          · cases h <;> cases u
            · go_wp2_with fail
              refine (HC.out _).mono ?_
              rintro e w2 ⟨rfl, hb2⟩
              have HB4 := Lib.hid (HB3.out.trans (hb2.mono HB3.out.size))
              clear hb2 HB3
              go_wp2_with fail
              refine (HSa.out _).mono ?_
              rintro e w2 ⟨rfl, hb2⟩
              have HB5 := Lib.hid (HB4.out.trans (hb2.mono HB4.out.size))
              clear hb2 HB4
              go_wp2_with fail
              refine (HI.out _).mono ?_
              rintro e w2 ⟨rfl, hb2⟩
              have HB6 := Lib.hid (HB5.out.trans (hb2.mono HB5.out.size))
              clear hb2 HB5
              go_wp2_with fail
              refine (HBr.out _).mono ?_
              rintro e w2 ⟨rfl, hb2⟩
              have HB7 := Lib.hid (HB6.out.trans (hb2.mono HB6.out.size))
              clear hb2 HB6
              go_wp2_with fail
              refine (HQ.out _).mono ?_
              rintro e w2 ⟨rfl, hb2⟩
              have HB8 := Lib.hid (HB7.out.trans (hb2.mono HB7.out.size))
              clear hb2 HB7
              go_wp2_with fail
              refine (HH.out _).mono ?_
              rintro e w2 ⟨rfl, hb2⟩
              have HB9 := Lib.hid (HB8.out.trans (hb2.mono HB8.out.size))
              clear hb2 HB8
              go_wp2_with fail
              refine (HU.out _).mono ?_
              rintro e w2 ⟨rfl, hb2⟩
              have HB10 := Lib.hid (HB9.out.trans (hb2.mono HB9.out.size))
              clear hb2 HB9
              go_wp2_with fail
              go_ret
              exact ⟨rfl, HB10.out⟩
            · go_wp2_with fail
              refine (HC.out _).mono ?_
              rintro e w2 ⟨rfl, hb2⟩
              have HB4 := Lib.hid (HB3.out.trans (hb2.mono HB3.out.size))
              clear hb2 HB3
              go_wp2_with fail
              refine (HSa.out _).mono ?_
              rintro e w2 ⟨rfl, hb2⟩
              have HB5 := Lib.hid (HB4.out.trans (hb2.mono HB4.out.size))
              clear hb2 HB4
              go_wp2_with fail
              refine (HI.out _).mono ?_
              rintro e w2 ⟨rfl, hb2⟩
              have HB6 := Lib.hid (HB5.out.trans (hb2.mono HB5.out.size))
              clear hb2 HB5
              go_wp2_with fail
              refine (HBr.out _).mono ?_
              rintro e w2 ⟨rfl, hb2⟩
              have HB7 := Lib.hid (HB6.out.trans (hb2.mono HB6.out.size))
              clear hb2 HB6
              go_wp2_with fail
              refine (HQ.out _).mono ?_
              rintro e w2 ⟨rfl, hb2⟩
              have HB8 := Lib.hid (HB7.out.trans (hb2.mono HB7.out.size))
              clear hb2 HB7
              go_wp2_with fail
              refine (HH.out _).mono ?_
              rintro e w2 ⟨rfl, hb2⟩
              have HB9 := Lib.hid (HB8.out.trans (hb2.mono HB8.out.size))
              clear hb2 HB8
              go_wp2_with fail
              refine (HU.out _).mono ?_
              rintro e w2 ⟨rfl, hb2⟩
              have HB10 := Lib.hid (HB9.out.trans (hb2.mono HB9.out.size))
              clear hb2 HB9
              go_wp2_with fail
              refine (HF.out _).mono ?_
              rintro e w2 ⟨rfl, rfl⟩
              go_wp2_with fail
              go_ret
              exact ⟨rfl, HB10.out⟩
            · go_wp2_with fail
              refine (HC.out _).mono ?_
              rintro e w2 ⟨rfl, hb2⟩
              have HB4 := Lib.hid (HB3.out.trans (hb2.mono HB3.out.size))
              clear hb2 HB3
              go_wp2_with fail
              refine (HSa.out _).mono ?_
              rintro e w2 ⟨rfl, hb2⟩
              have HB5 := Lib.hid (HB4.out.trans (hb2.mono HB4.out.size))
              clear hb2 HB4
              go_wp2_with fail
              refine (HI.out _).mono ?_
              rintro e w2 ⟨rfl, hb2⟩
              have HB6 := Lib.hid (HB5.out.trans (hb2.mono HB5.out.size))
              clear hb2 HB5
              go_wp2_with fail
              refine (HBr.out _).mono ?_
              rintro e w2 ⟨rfl, hb2⟩
              have HB7 := Lib.hid (HB6.out.trans (hb2.mono HB6.out.size))
              clear hb2 HB6
              go_wp2_with fail
              refine (HQ.out _).mono ?_
              rintro e w2 ⟨rfl, hb2⟩
              have HB8 := Lib.hid (HB7.out.trans (hb2.mono HB7.out.size))
              clear hb2 HB7
              go_wp2_with fail
              refine (HH.out _).mono ?_
              rintro e w2 ⟨rfl, hb2⟩
              have HB9 := Lib.hid (HB8.out.trans (hb2.mono HB8.out.size))
              clear hb2 HB8
              go_wp2_with fail
              refine (HF.out _).mono ?_
              rintro e w2 ⟨rfl, rfl⟩
              go_wp2_with fail
              refine (HU.out _).mono ?_
              rintro e w2 ⟨rfl, hb2⟩
              have HB10 := Lib.hid (HB9.out.trans (hb2.mono HB9.out.size))
              clear hb2 HB9
              go_wp2_with fail
              go_ret
              exact ⟨rfl, HB10.out⟩
            · go_wp2_with fail
              refine (HC.out _).mono ?_
              rintro e w2 ⟨rfl, hb2⟩
              have HB4 := Lib.hid (HB3.out.trans (hb2.mono HB3.out.size))
              clear hb2 HB3
              go_wp2_with fail
              refine (HSa.out _).mono ?_
              rintro e w2 ⟨rfl, hb2⟩
              have HB5 := Lib.hid (HB4.out.trans (hb2.mono HB4.out.size))
              clear hb2 HB4
              go_wp2_with fail
              refine (HI.out _).mono ?_
              rintro e w2 ⟨rfl, hb2⟩
              have HB6 := Lib.hid (HB5.out.trans (hb2.mono HB5.out.size))
              clear hb2 HB5
              go_wp2_with fail
              refine (HBr.out _).mono ?_
              rintro e w2 ⟨rfl, hb2⟩
              have HB7 := Lib.hid (HB6.out.trans (hb2.mono HB6.out.size))
              clear hb2 HB6
              go_wp2_with fail
              refine (HQ.out _).mono ?_
              rintro e w2 ⟨rfl, hb2⟩
              have HB8 := Lib.hid (HB7.out.trans (hb2.mono HB7.out.size))
              clear hb2 HB7
              go_wp2_with fail
              refine (HH.out _).mono ?_
              rintro e w2 ⟨rfl, hb2⟩
              have HB9 := Lib.hid (HB8.out.trans (hb2.mono HB8.out.size))
              clear hb2 HB8
              go_wp2_with fail
              refine (HF.out _).mono ?_
              rintro e w2 ⟨rfl, rfl⟩
              go_wp2_with fail
              refine (HU.out _).mono ?_
              rintro e w2 ⟨rfl, hb2⟩
              have HB10 := Lib.hid (HB9.out.trans (hb2.mono HB9.out.size))
              clear hb2 HB9
              go_wp2_with fail
              refine (HF.out _).mono ?_
              rintro e w2 ⟨rfl, rfl⟩
              go_wp2_with fail
              go_ret
              exact ⟨rfl, HB10.out⟩
        · rcases HSt.out with ⟨rfl, rfl, rfl, rfl⟩ | ⟨rfl, rfl, rfl, rfl⟩ | ⟨rfl, rfl⟩
          · go_wp2_with fail
            refine (HC.out _).mono ?_
            rintro e w2 ⟨rfl, hb2⟩
            have HB4 := Lib.hid (HB3.out.trans (hb2.mono HB3.out.size))
            clear hb2 HB3
            go_wp2_with fail
            refine (HSa.out _).mono ?_
            rintro e w2 ⟨rfl, hb2⟩
            have HB5 := Lib.hid (HB4.out.trans (hb2.mono HB4.out.size))
            clear hb2 HB4
            go_wp2_with fail
            refine (HI.out _).mono ?_
            rintro e w2 ⟨rfl, hb2⟩
            have HB6 := Lib.hid (HB5.out.trans (hb2.mono HB5.out.size))
            clear hb2 HB5
            go_wp2_with fail
            refine (HQ.out _).mono ?_
            rintro e w2 ⟨rfl, hb2⟩
            have HB7 := Lib.hid (HB6.out.trans (hb2.mono HB6.out.size))
            clear hb2 HB6
            go_wp2_with fail
            refine (HBr.out _).mono ?_
            rintro e w2 ⟨rfl, hb2⟩
            have HB8 := Lib.hid (HB7.out.trans (hb2.mono HB7.out.size))
            clear hb2 HB7
            go_wp2_with fail
            refine (HF.out _).mono ?_
            rintro e w2 ⟨rfl, rfl⟩
            go_wp2_with fail
            refine (HH.out _).mono ?_
            rintro e w2 ⟨rfl, hb2⟩
            have HB9 := Lib.hid (HB8.out.trans (hb2.mono HB8.out.size))
            clear hb2 HB8
            go_wp2_with fail
            refine (HU.out _).mono ?_
            rintro e w2 ⟨rfl, hb2⟩
            have HB10 := Lib.hid (HB9.out.trans (hb2.mono HB9.out.size))
            clear hb2 HB9
            go_wp2_with fail
            refine (HQ.out _).mono ?_
            rintro e w2 ⟨rfl, hb2⟩
            have HB11 := Lib.hid (HB10.out.trans (hb2.mono HB10.out.size))
            clear hb2 HB10
            go_wp2_with fail
            refine (HH.out _).mono ?_
            rintro e w2 ⟨rfl, hb2⟩
            have HB12 := Lib.hid (HB11.out.trans (hb2.mono HB11.out.size))
            clear hb2 HB11
            go_wp2_with fail
            refine (HU.out _).mono ?_
            rintro e w2 ⟨rfl, hb2⟩
            have HB13 := Lib.hid (HB12.out.trans (hb2.mono HB12.out.size))
            clear hb2 HB12
            go_wp2_with fail
            go_ret
            exact ⟨rfl, HB13.out⟩
          · go_wp2_with fail
            refine (HC.out _).mono ?_
            rintro e w2 ⟨rfl, hb2⟩
            have HB4 := Lib.hid (HB3.out.trans (hb2.mono HB3.out.size))
            clear hb2 HB3
            go_wp2_with fail
            refine (HSa.out _).mono ?_
            rintro e w2 ⟨rfl, hb2⟩
            have HB5 := Lib.hid (HB4.out.trans (hb2.mono HB4.out.size))
            clear hb2 HB4
            go_wp2_with fail
            refine (HI.out _).mono ?_
            rintro e w2 ⟨rfl, hb2⟩
            have HB6 := Lib.hid (HB5.out.trans (hb2.mono HB5.out.size))
            clear hb2 HB5
            go_wp2_with fail
            refine (HQ.out _).mono ?_
            rintro e w2 ⟨rfl, hb2⟩
            have HB7 := Lib.hid (HB6.out.trans (hb2.mono HB6.out.size))
            clear hb2 HB6
            go_wp2_with fail
            refine (HBr.out _).mono ?_
            rintro e w2 ⟨rfl, hb2⟩
            have HB8 := Lib.hid (HB7.out.trans (hb2.mono HB7.out.size))
            clear hb2 HB7
            go_wp2_with fail
            refine (HQ.out _).mono ?_
            rintro e w2 ⟨rfl, hb2⟩
            have HB9 := Lib.hid (HB8.out.trans (hb2.mono HB8.out.size))
            clear hb2 HB8
            go_wp2_with fail
            refine (HH.out _).mono ?_
            rintro e w2 ⟨rfl, hb2⟩
            have HB10 := Lib.hid (HB9.out.trans (hb2.mono HB9.out.size))
            clear hb2 HB9
            go_wp2_with fail
            refine (HU.out _).mono ?_
            rintro e w2 ⟨rfl, hb2⟩
            have HB11 := Lib.hid (HB10.out.trans (hb2.mono HB10.out.size))
            clear hb2 HB10
            go_wp2_with fail
            go_ret
            exact ⟨rfl, HB11.out⟩
          · cases h <;> cases u
            · go_wp2_with fail
              refine (HC.out _).mono ?_
              rintro e w2 ⟨rfl, hb2⟩
              have HB4 := Lib.hid (HB3.out.trans (hb2.mono HB3.out.size))
              clear hb2 HB3
              go_wp2_with fail
              refine (HSa.out _).mono ?_
              rintro e w2 ⟨rfl, hb2⟩
              have HB5 := Lib.hid (HB4.out.trans (hb2.mono HB4.out.size))
              clear hb2 HB4
              go_wp2_with fail
              refine (HI.out _).mono ?_
              rintro e w2 ⟨rfl, hb2⟩
              have HB6 := Lib.hid (HB5.out.trans (hb2.mono HB5.out.size))
              clear hb2 HB5
              go_wp2_with fail
              refine (HQ.out _).mono ?_
              rintro e w2 ⟨rfl, hb2⟩
              have HB7 := Lib.hid (HB6.out.trans (hb2.mono HB6.out.size))
              clear hb2 HB6
              go_wp2_with fail
              refine (HBr.out _).mono ?_
              rintro e w2 ⟨rfl, hb2⟩
              have HB8 := Lib.hid (HB7.out.trans (hb2.mono HB7.out.size))
              clear hb2 HB7
              go_wp2_with fail
              refine (HQ.out _).mono ?_
              rintro e w2 ⟨rfl, hb2⟩
              have HB9 := Lib.hid (HB8.out.trans (hb2.mono HB8.out.size))
              clear hb2 HB8
              go_wp2_with fail
              refine (HH.out _).mono ?_
              rintro e w2 ⟨rfl, hb2⟩
              have HB10 := Lib.hid (HB9.out.trans (hb2.mono HB9.out.size))
              clear hb2 HB9
              go_wp2_with fail
              refine (HU.out _).mono ?_
              rintro e w2 ⟨rfl, hb2⟩
              have HB11 := Lib.hid (HB10.out.trans (hb2.mono HB10.out.size))
              clear hb2 HB10
              go_wp2_with fail
              go_ret
              exact ⟨rfl, HB11.out⟩
            · go_wp2_with fail
              refine (HC.out _).mono ?_
              rintro e w2 ⟨rfl, hb2⟩
              have HB4 := Lib.hid (HB3.out.trans (hb2.mono HB3.out.size))
              clear hb2 HB3
              go_wp2_with fail
              refine (HSa.out _).mono ?_
              rintro e w2 ⟨rfl, hb2⟩
              have HB5 := Lib.hid (HB4.out.trans (hb2.mono HB4.out.size))
              clear hb2 HB4
              go_wp2_with fail
              refine (HI.out _).mono ?_
              rintro e w2 ⟨rfl, hb2⟩
              have HB6 := Lib.hid (HB5.out.trans (hb2.mono HB5.out.size))
              clear hb2 HB5
              go_wp2_with fail
              refine (HQ.out _).mono ?_
              rintro e w2 ⟨rfl, hb2⟩
              have HB7 := Lib.hid (HB6.out.trans (hb2.mono HB6.out.size))
              clear hb2 HB6
              go_wp2_with fail
              refine (HBr.out _).mono ?_
              rintro e w2 ⟨rfl, hb2⟩
              have HB8 := Lib.hid (HB7.out.trans (hb2.mono HB7.out.size))
              clear hb2 HB7
              go_wp2_with fail
              refine (HQ.out _).mono ?_
              rintro e w2 ⟨rfl, hb2⟩
              have HB9 := Lib.hid (HB8.out.trans (hb2.mono HB8.out.size))
              clear hb2 HB8
              go_wp2_with fail
              refine (HH.out _).mono ?_
              rintro e w2 ⟨rfl, hb2⟩
              have HB10 := Lib.hid (HB9.out.trans (hb2.mono HB9.out.size))
              clear hb2 HB9
              go_wp2_with fail
              refine (HU.out _).mono ?_
              rintro e w2 ⟨rfl, hb2⟩
              have HB11 := Lib.hid (HB10.out.trans (hb2.mono HB10.out.size))
              clear hb2 HB10
              go_wp2_with fail
              refine (HF.out _).mono ?_
              rintro e w2 ⟨rfl, rfl⟩
              go_wp2_with fail
              go_ret
              exact ⟨rfl, HB11.out⟩
            · go_wp2_with fail
              refine (HC.out _).mono ?_
              rintro e w2 ⟨rfl, hb2⟩
              have HB4 := Lib.hid (HB3.out.trans (hb2.mono HB3.out.size))
              clear hb2 HB3
              go_wp2_with fail
              refine (HSa.out _).mono ?_
              rintro e w2 ⟨rfl, hb2⟩
              have HB5 := Lib.hid (HB4.out.trans (hb2.mono HB4.out.size))
              clear hb2 HB4
              go_wp2_with fail
              refine (HI.out _).mono ?_
              rintro e w2 ⟨rfl, hb2⟩
              have HB6 := Lib.hid (HB5.out.trans (hb2.mono HB5.out.size))
              clear hb2 HB5
              go_wp2_with fail
              refine (HQ.out _).mono ?_
              rintro e w2 ⟨rfl, hb2⟩
              have HB7 := Lib.hid (HB6.out.trans (hb2.mono HB6.out.size))
              clear hb2 HB6
              go_wp2_with fail
              refine (HBr.out _).mono ?_
              rintro e w2 ⟨rfl, hb2⟩
              have HB8 := Lib.hid (HB7.out.trans (hb2.mono HB7.out.size))
              clear hb2 HB7
              go_wp2_with fail
              refine (HQ.out _).mono ?_
              rintro e w2 ⟨rfl, hb2⟩
              have HB9 := Lib.hid (HB8.out.trans (hb2.mono HB8.out.size))
              clear hb2 HB8
              go_wp2_with fail
              refine (HH.out _).mono ?_
              rintro e w2 ⟨rfl, hb2⟩
              have HB10 := Lib.hid (HB9.out.trans (hb2.mono HB9.out.size))
              clear hb2 HB9
              go_wp2_with fail
              refine (HF.out _).mono ?_
              rintro e w2 ⟨rfl, rfl⟩
              go_wp2_with fail
              refine (HU.out _).mono ?_
              rintro e w2 ⟨rfl, hb2⟩
              have HB11 := Lib.hid (HB10.out.trans (hb2.mono HB10.out.size))
              clear hb2 HB10
              go_wp2_with fail
              go_ret
              exact ⟨rfl, HB11.out⟩
            · go_wp2_with fail
              refine (HC.out _).mono ?_
              rintro e w2 ⟨rfl, hb2⟩
              have HB4 := Lib.hid (HB3.out.trans (hb2.mono HB3.out.size))
              clear hb2 HB3
              go_wp2_with fail
              refine (HSa.out _).mono ?_
              rintro e w2 ⟨rfl, hb2⟩
              have HB5 := Lib.hid (HB4.out.trans (hb2.mono HB4.out.size))
              clear hb2 HB4
              go_wp2_with fail
              refine (HI.out _).mono ?_
              rintro e w2 ⟨rfl, hb2⟩
              have HB6 := Lib.hid (HB5.out.trans (hb2.mono HB5.out.size))
              clear hb2 HB5
              go_wp2_with fail
              refine (HQ.out _).mono ?_
              rintro e w2 ⟨rfl, hb2⟩
              have HB7 := Lib.hid (HB6.out.trans (hb2.mono HB6.out.size))
              clear hb2 HB6
              go_wp2_with fail
              refine (HBr.out _).mono ?_
              rintro e w2 ⟨rfl, hb2⟩
              have HB8 := Lib.hid (HB7.out.trans (hb2.mono HB7.out.size))
              clear hb2 HB7
              go_wp2_with fail
              refine (HQ.out _).mono ?_
              rintro e w2 ⟨rfl, hb2⟩
              have HB9 := Lib.hid (HB8.out.trans (hb2.mono HB8.out.size))
              clear hb2 HB8
              go_wp2_with fail
              refine (HH.out _).mono ?_
              rintro e w2 ⟨rfl, hb2⟩
              have HB10 := Lib.hid (HB9.out.trans (hb2.mono HB9.out.size))
              clear hb2 HB9
              go_wp2_with fail
              refine (HF.out _).mono ?_
              rintro e w2 ⟨rfl, rfl⟩
              go_wp2_with fail
              refine (HU.out _).mono ?_
              rintro e w2 ⟨rfl, hb2⟩
              have HB11 := Lib.hid (HB10.out.trans (hb2.mono HB10.out.size))
              clear hb2 HB10
              go_wp2_with fail
              refine (HF.out _).mono ?_
              rintro e w2 ⟨rfl, rfl⟩
              go_wp2_with fail
              go_ret
              exact ⟨rfl, HB11.out⟩
        · rcases HSt.out with ⟨rfl, rfl, rfl, rfl⟩ | ⟨rfl, rfl, rfl, rfl⟩ | ⟨rfl, rfl⟩
          · go_wp2_with fail
            refine (HC.out _).mono ?_
            rintro e w2 ⟨rfl, hb2⟩
            have HB4 := Lib.hid (HB3.out.trans (hb2.mono HB3.out.size))
            clear hb2 HB3
            go_wp2_with fail
            refine (HSa.out _).mono ?_
            rintro e w2 ⟨rfl, hb2⟩
            have HB5 := Lib.hid (HB4.out.trans (hb2.mono HB4.out.size))
            clear hb2 HB4
            go_wp2_with fail
            refine (HI.out _).mono ?_
            rintro e w2 ⟨rfl, hb2⟩
            have HB6 := Lib.hid (HB5.out.trans (hb2.mono HB5.out.size))
            clear hb2 HB5
            go_wp2_with fail
            refine (HI.out _).mono ?_
            rintro e w2 ⟨rfl, hb2⟩
            have HB7 := Lib.hid (HB6.out.trans (hb2.mono HB6.out.size))
            clear hb2 HB6
            go_wp2_with fail
            refine (HQ.out _).mono ?_
            rintro e w2 ⟨rfl, hb2⟩
            have HB8 := Lib.hid (HB7.out.trans (hb2.mono HB7.out.size))
            clear hb2 HB7
            go_wp2_with fail
            refine (HBr.out _).mono ?_
            rintro e w2 ⟨rfl, hb2⟩
            have HB9 := Lib.hid (HB8.out.trans (hb2.mono HB8.out.size))
            clear hb2 HB8
            go_wp2_with fail
            refine (HF.out _).mono ?_
            rintro e w2 ⟨rfl, rfl⟩
            go_wp2_with fail
            refine (HH.out _).mono ?_
            rintro e w2 ⟨rfl, hb2⟩
            have HB10 := Lib.hid (HB9.out.trans (hb2.mono HB9.out.size))
            clear hb2 HB9
            go_wp2_with fail
            refine (HU.out _).mono ?_
            rintro e w2 ⟨rfl, hb2⟩
            have HB11 := Lib.hid (HB10.out.trans (hb2.mono HB10.out.size))
            clear hb2 HB10
            go_wp2_with fail
            refine (HQ.out _).mono ?_
            rintro e w2 ⟨rfl, hb2⟩
            have HB12 := Lib.hid (HB11.out.trans (hb2.mono HB11.out.size))
            clear hb2 HB11
            go_wp2_with fail
            refine (HH.out _).mono ?_
            rintro e w2 ⟨rfl, hb2⟩
            have HB13 := Lib.hid (HB12.out.trans (hb2.mono HB12.out.size))
            clear hb2 HB12
            go_wp2_with fail
            refine (HU.out _).mono ?_
            rintro e w2 ⟨rfl, hb2⟩
            have HB14 := Lib.hid (HB13.out.trans (hb2.mono HB13.out.size))
            clear hb2 HB13
            go_wp2_with fail
            go_ret
            exact ⟨rfl, HB14.out⟩
          · go_wp2_with fail
            refine (HC.out _).mono ?_
            rintro e w2 ⟨rfl, hb2⟩
            have HB4 := Lib.hid (HB3.out.trans (hb2.mono HB3.out.size))
            clear hb2 HB3
            go_wp2_with fail
            refine (HSa.out _).mono ?_
            rintro e w2 ⟨rfl, hb2⟩
            have HB5 := Lib.hid (HB4.out.trans (hb2.mono HB4.out.size))
            clear hb2 HB4
            go_wp2_with fail
            refine (HI.out _).mono ?_
            rintro e w2 ⟨rfl, hb2⟩
            have HB6 := Lib.hid (HB5.out.trans (hb2.mono HB5.out.size))
            clear hb2 HB5
            go_wp2_with fail
            refine (HI.out _).mono ?_
            rintro e w2 ⟨rfl, hb2⟩
            have HB7 := Lib.hid (HB6.out.trans (hb2.mono HB6.out.size))
            clear hb2 HB6
            go_wp2_with fail
            refine (HQ.out _).mono ?_
            rintro e w2 ⟨rfl, hb2⟩
            have HB8 := Lib.hid (HB7.out.trans (hb2.mono HB7.out.size))
            clear hb2 HB7
            go_wp2_with fail
            refine (HBr.out _).mono ?_
            rintro e w2 ⟨rfl, hb2⟩
            have HB9 := Lib.hid (HB8.out.trans (hb2.mono HB8.out.size))
            clear hb2 HB8
            go_wp2_with fail
            refine (HQ.out _).mono ?_
            rintro e w2 ⟨rfl, hb2⟩
            have HB10 := Lib.hid (HB9.out.trans (hb2.mono HB9.out.size))
            clear hb2 HB9
            go_wp2_with fail
            refine (HH.out _).mono ?_
            rintro e w2 ⟨rfl, hb2⟩
            have HB11 := Lib.hid (HB10.out.trans (hb2.mono HB10.out.size))
            clear hb2 HB10
            go_wp2_with fail
            refine (HU.out _).mono ?_
            rintro e w2 ⟨rfl, hb2⟩
            have HB12 := Lib.hid (HB11.out.trans (hb2.mono HB11.out.size))
            clear hb2 HB11
            go_wp2_with fail
            go_ret
            exact ⟨rfl, HB12.out⟩
          · cases h <;> cases u
            · go_wp2_with fail
              refine (HC.out _).mono ?_
              rintro e w2 ⟨rfl, hb2⟩
              have HB4 := Lib.hid (HB3.out.trans (hb2.mono HB3.out.size))
              clear hb2 HB3
              go_wp2_with fail
              refine (HSa.out _).mono ?_
              rintro e w2 ⟨rfl, hb2⟩
              have HB5 := Lib.hid (HB4.out.trans (hb2.mono HB4.out.size))
              clear hb2 HB4
              go_wp2_with fail
              refine (HI.out _).mono ?_
              rintro e w2 ⟨rfl, hb2⟩
              have HB6 := Lib.hid (HB5.out.trans (hb2.mono HB5.out.size))
              clear hb2 HB5
              go_wp2_with fail
              refine (HI.out _).mono ?_
              rintro e w2 ⟨rfl, hb2⟩
              have HB7 := Lib.hid (HB6.out.trans (hb2.mono HB6.out.size))
              clear hb2 HB6
              go_wp2_with fail
              refine (HQ.out _).mono ?_
              rintro e w2 ⟨rfl, hb2⟩
              have HB8 := Lib.hid (HB7.out.trans (hb2.mono HB7.out.size))
              clear hb2 HB7
              go_wp2_with fail
              refine (HBr.out _).mono ?_
              rintro e w2 ⟨rfl, hb2⟩
              have HB9 := Lib.hid (HB8.out.trans (hb2.mono HB8.out.size))
              clear hb2 HB8
              go_wp2_with fail
              refine (HQ.out _).mono ?_
              rintro e w2 ⟨rfl, hb2⟩
              have HB10 := Lib.hid (HB9.out.trans (hb2.mono HB9.out.size))
              clear hb2 HB9
              go_wp2_with fail
              refine (HH.out _).mono ?_
              rintro e w2 ⟨rfl, hb2⟩
              have HB11 := Lib.hid (HB10.out.trans (hb2.mono HB10.out.size))
              clear hb2 HB10
              go_wp2_with fail
              refine (HU.out _).mono ?_
              rintro e w2 ⟨rfl, hb2⟩
              have HB12 := Lib.hid (HB11.out.trans (hb2.mono HB11.out.size))
              clear hb2 HB11
              go_wp2_with fail
              go_ret
              exact ⟨rfl, HB12.out⟩
            · go_wp2_with fail
              refine (HC.out _).mono ?_
              rintro e w2 ⟨rfl, hb2⟩
              have HB4 := Lib.hid (HB3.out.trans (hb2.mono HB3.out.size))
              clear hb2 HB3
              go_wp2_with fail
              refine (HSa.out _).mono ?_
              rintro e w2 ⟨rfl, hb2⟩
              have HB5 := Lib.hid (HB4.out.trans (hb2.mono HB4.out.size))
              clear hb2 HB4
              go_wp2_with fail
              refine (HI.out _).mono ?_
              rintro e w2 ⟨rfl, hb2⟩
              have HB6 := Lib.hid (HB5.out.trans (hb2.mono HB5.out.size))
              clear hb2 HB5
              go_wp2_with fail
              refine (HI.out _).mono ?_
              rintro e w2 ⟨rfl, hb2⟩
              have HB7 := Lib.hid (HB6.out.trans (hb2.mono HB6.out.size))
              clear hb2 HB6
              go_wp2_with fail
              refine (HQ.out _).mono ?_
              rintro e w2 ⟨rfl, hb2⟩
              have HB8 := Lib.hid (HB7.out.trans (hb2.mono HB7.out.size))
              clear hb2 HB7
              go_wp2_with fail
              refine (HBr.out _).mono ?_
              rintro e w2 ⟨rfl, hb2⟩
              have HB9 := Lib.hid (HB8.out.trans (hb2.mono HB8.out.size))
              clear hb2 HB8
              go_wp2_with fail
              refine (HQ.out _).mono ?_
              rintro e w2 ⟨rfl, hb2⟩
              have HB10 := Lib.hid (HB9.out.trans (hb2.mono HB9.out.size))
              clear hb2 HB9
              go_wp2_with fail
              refine (HH.out _).mono ?_
              rintro e w2 ⟨rfl, hb2⟩
              have HB11 := Lib.hid (HB10.out.trans (hb2.mono HB10.out.size))
              clear hb2 HB10
              go_wp2_with fail
              refine (HU.out _).mono ?_
              rintro e w2 ⟨rfl, hb2⟩
              have HB12 := Lib.hid (HB11.out.trans (hb2.mono HB11.out.size))
              clear hb2 HB11
              go_wp2_with fail
              refine (HF.out _).mono ?_
              rintro e w2 ⟨rfl, rfl⟩
              go_wp2_with fail
              go_ret
              exact ⟨rfl, HB12.out⟩
            · go_wp2_with fail
              refine (HC.out _).mono ?_
              rintro e w2 ⟨rfl, hb2⟩
              have HB4 := Lib.hid (HB3.out.trans (hb2.mono HB3.out.size))
              clear hb2 HB3
              go_wp2_with fail
              refine (HSa.out _).mono ?_
              rintro e w2 ⟨rfl, hb2⟩
              have HB5 := Lib.hid (HB4.out.trans (hb2.mono HB4.out.size))
              clear hb2 HB4
              go_wp2_with fail
              refine (HI.out _).mono ?_
              rintro e w2 ⟨rfl, hb2⟩
              have HB6 := Lib.hid (HB5.out.trans (hb2.mono HB5.out.size))
              clear hb2 HB5
              go_wp2_with fail
              refine (HI.out _).mono ?_
              rintro e w2 ⟨rfl, hb2⟩
              have HB7 := Lib.hid (HB6.out.trans (hb2.mono HB6.out.size))
              clear hb2 HB6
              go_wp2_with fail
              refine (HQ.out _).mono ?_
              rintro e w2 ⟨rfl, hb2⟩
              have HB8 := Lib.hid (HB7.out.trans (hb2.mono HB7.out.size))
              clear hb2 HB7
              go_wp2_with fail
              refine (HBr.out _).mono ?_
              rintro e w2 ⟨rfl, hb2⟩
              have HB9 := Lib.hid (HB8.out.trans (hb2.mono HB8.out.size))
              clear hb2 HB8
              go_wp2_with fail
              refine (HQ.out _).mono ?_
              rintro e w2 ⟨rfl, hb2⟩
              have HB10 := Lib.hid (HB9.out.trans (hb2.mono HB9.out.size))
              clear hb2 HB9
              go_wp2_with fail
              refine (HH.out _).mono ?_
              rintro e w2 ⟨rfl, hb2⟩
              have HB11 := Lib.hid (HB10.out.trans (hb2.mono HB10.out.size))
              clear hb2 HB10
              go_wp2_with fail
              refine (HF.out _).mono ?_
              rintro e w2 ⟨rfl, rfl⟩
              go_wp2_with fail
              refine (HU.out _).mono ?_
              rintro e w2 ⟨rfl, hb2⟩
              have HB12 := Lib.hid (HB11.out.trans (hb2.mono HB11.out.size))
              clear hb2 HB11
              go_wp2_with fail
              go_ret
              exact ⟨rfl, HB12.out⟩
            · go_wp2_with fail
              refine (HC.out _).mono ?_
              rintro e w2 ⟨rfl, hb2⟩
              have HB4 := Lib.hid (HB3.out.trans (hb2.mono HB3.out.size))
              clear hb2 HB3
              go_wp2_with fail
              refine (HSa.out _).mono ?_
              rintro e w2 ⟨rfl, hb2⟩
              have HB5 := Lib.hid (HB4.out.trans (hb2.mono HB4.out.size))
              clear hb2 HB4
              go_wp2_with fail
              refine (HI.out _).mono ?_
              rintro e w2 ⟨rfl, hb2⟩
              have HB6 := Lib.hid (HB5.out.trans (hb2.mono HB5.out.size))
              clear hb2 HB5
              go_wp2_with fail
              refine (HI.out _).mono ?_
              rintro e w2 ⟨rfl, hb2⟩
              have HB7 := Lib.hid (HB6.out.trans (hb2.mono HB6.out.size))
              clear hb2 HB6
              go_wp2_with fail
              refine (HQ.out _).mono ?_
              rintro e w2 ⟨rfl, hb2⟩
              have HB8 := Lib.hid (HB7.out.trans (hb2.mono HB7.out.size))
              clear hb2 HB7
              go_wp2_with fail
              refine (HBr.out _).mono ?_
              rintro e w2 ⟨rfl, hb2⟩
              have HB9 := Lib.hid (HB8.out.trans (hb2.mono HB8.out.size))
              clear hb2 HB8
              go_wp2_with fail
              refine (HQ.out _).mono ?_
              rintro e w2 ⟨rfl, hb2⟩
              have HB10 := Lib.hid (HB9.out.trans (hb2.mono HB9.out.size))
              clear hb2 HB9
              go_wp2_with fail
              refine (HH.out _).mono ?_
              rintro e w2 ⟨rfl, hb2⟩
              have HB11 := Lib.hid (HB10.out.trans (hb2.mono HB10.out.size))
              clear hb2 HB10
              go_wp2_with fail
              refine (HF.out _).mono ?_
              rintro e w2 ⟨rfl, rfl⟩
              go_wp2_with fail
              refine (HU.out _).mono ?_
              rintro e w2 ⟨rfl, hb2⟩
              have HB12 := Lib.hid (HB11.out.trans (hb2.mono HB11.out.size))
              clear hb2 HB11
              go_wp2_with fail
              refine (HF.out _).mono ?_
              rintro e w2 ⟨rfl, rfl⟩
              go_wp2_with fail
              go_ret
              exact ⟨rfl, HB12.out⟩
        · rcases HSt.out with ⟨rfl, rfl, rfl, rfl⟩ | ⟨rfl, rfl, rfl, rfl⟩ | ⟨rfl, rfl⟩
          · go_wp2_with fail
            refine (HC.out _).mono ?_
            rintro e w2 ⟨rfl, hb2⟩
            have HB4 := Lib.hid (HB3.out.trans (hb2.mono HB3.out.size))
            clear hb2 HB3
            go_wp2_with fail
            refine (HSa.out _).mono ?_
            rintro e w2 ⟨rfl, hb2⟩
            have HB5 := Lib.hid (HB4.out.trans (hb2.mono HB4.out.size))
            clear hb2 HB4
            go_wp2_with fail
            refine (HSa.out _).mono ?_
            rintro e w2 ⟨rfl, hb2⟩
            have HB6 := Lib.hid (HB5.out.trans (hb2.mono HB5.out.size))
            clear hb2 HB5
            go_wp2_with fail
            refine (HI.out _).mono ?_
            rintro e w2 ⟨rfl, hb2⟩
            have HB7 := Lib.hid (HB6.out.trans (hb2.mono HB6.out.size))
            clear hb2 HB6
            go_wp2_with fail
            refine (HI.out _).mono ?_
            rintro e w2 ⟨rfl, hb2⟩
            have HB8 := Lib.hid (HB7.out.trans (hb2.mono HB7.out.size))
            clear hb2 HB7
            go_wp2_with fail
            refine (HQ.out _).mono ?_
            rintro e w2 ⟨rfl, hb2⟩
            have HB9 := Lib.hid (HB8.out.trans (hb2.mono HB8.out.size))
            clear hb2 HB8
            go_wp2_with fail
            refine (HBr.out _).mono ?_
            rintro e w2 ⟨rfl, hb2⟩
            have HB10 := Lib.hid (HB9.out.trans (hb2.mono HB9.out.size))
            clear hb2 HB9
            go_wp2_with fail
            refine (HF.out _).mono ?_
            rintro e w2 ⟨rfl, rfl⟩
            go_wp2_with fail
            refine (HH.out _).mono ?_
            rintro e w2 ⟨rfl, hb2⟩
            have HB11 := Lib.hid (HB10.out.trans (hb2.mono HB10.out.size))
            clear hb2 HB10
            go_wp2_with fail
            refine (HU.out _).mono ?_
            rintro e w2 ⟨rfl, hb2⟩
            have HB12 := Lib.hid (HB11.out.trans (hb2.mono HB11.out.size))
            clear hb2 HB11
            go_wp2_with fail
            refine (HQ.out _).mono ?_
            rintro e w2 ⟨rfl, hb2⟩
            have HB13 := Lib.hid (HB12.out.trans (hb2.mono HB12.out.size))
            clear hb2 HB12
            go_wp2_with fail
            refine (HH.out _).mono ?_
            rintro e w2 ⟨rfl, hb2⟩
            have HB14 := Lib.hid (HB13.out.trans (hb2.mono HB13.out.size))
            clear hb2 HB13
            go_wp2_with fail
            refine (HU.out _).mono ?_
            rintro e w2 ⟨rfl, hb2⟩
            have HB15 := Lib.hid (HB14.out.trans (hb2.mono HB14.out.size))
            clear hb2 HB14
            go_wp2_with fail
            go_ret
            exact ⟨rfl, HB15.out⟩
          · go_wp2_with fail
            refine (HC.out _).mono ?_
            rintro e w2 ⟨rfl, hb2⟩
            have HB4 := Lib.hid (HB3.out.trans (hb2.mono HB3.out.size))
            clear hb2 HB3
            go_wp2_with fail
            refine (HSa.out _).mono ?_
            rintro e w2 ⟨rfl, hb2⟩
            have HB5 := Lib.hid (HB4.out.trans (hb2.mono HB4.out.size))
            clear hb2 HB4
            go_wp2_with fail
            refine (HSa.out _).mono ?_
            rintro e w2 ⟨rfl, hb2⟩
            have HB6 := Lib.hid (HB5.out.trans (hb2.mono HB5.out.size))
            clear hb2 HB5
            go_wp2_with fail
            refine (HI.out _).mono ?_
            rintro e w2 ⟨rfl, hb2⟩
            have HB7 := Lib.hid (HB6.out.trans (hb2.mono HB6.out.size))
            clear hb2 HB6
            go_wp2_with fail
            refine (HI.out _).mono ?_
            rintro e w2 ⟨rfl, hb2⟩
            have HB8 := Lib.hid (HB7.out.trans (hb2.mono HB7.out.size))
            clear hb2 HB7
            go_wp2_with fail
            refine (HQ.out _).mono ?_
            rintro e w2 ⟨rfl, hb2⟩
            have HB9 := Lib.hid (HB8.out.trans (hb2.mono HB8.out.size))
            clear hb2 HB8
            go_wp2_with fail
            refine (HBr.out _).mono ?_
            rintro e w2 ⟨rfl, hb2⟩
            have HB10 := Lib.hid (HB9.out.trans (hb2.mono HB9.out.size))
            clear hb2 HB9
            go_wp2_with fail
            refine (HQ.out _).mono ?_
            rintro e w2 ⟨rfl, hb2⟩
            have HB11 := Lib.hid (HB10.out.trans (hb2.mono HB10.out.size))
            clear hb2 HB10
            go_wp2_with fail
            refine (HH.out _).mono ?_
            rintro e w2 ⟨rfl, hb2⟩
            have HB12 := Lib.hid (HB11.out.trans (hb2.mono HB11.out.size))
            clear hb2 HB11
            go_wp2_with fail
            refine (HU.out _).mono ?_
            rintro e w2 ⟨rfl, hb2⟩
            have HB13 := Lib.hid (HB12.out.trans (hb2.mono HB12.out.size))
            clear hb2 HB12
            go_wp2_with fail
            go_ret
            exact ⟨rfl, HB13.out⟩
          · cases h <;> cases u
            · go_wp2_with fail
              refine (HC.out _).mono ?_
              rintro e w2 ⟨rfl, hb2⟩
              have HB4 := Lib.hid (HB3.out.trans (hb2.mono HB3.out.size))
              clear hb2 HB3
              go_wp2_with fail
              refine (HSa.out _).mono ?_
              rintro e w2 ⟨rfl, hb2⟩
              have HB5 := Lib.hid (HB4.out.trans (hb2.mono HB4.out.size))
              clear hb2 HB4
              go_wp2_with fail
              refine (HSa.out _).mono ?_
              rintro e w2 ⟨rfl, hb2⟩
              have HB6 := Lib.hid (HB5.out.trans (hb2.mono HB5.out.size))
              clear hb2 HB5
              go_wp2_with fail
              refine (HI.out _).mono ?_
              rintro e w2 ⟨rfl, hb2⟩
              have HB7 := Lib.hid (HB6.out.trans (hb2.mono HB6.out.size))
              clear hb2 HB6
              go_wp2_with fail
              refine (HI.out _).mono ?_
              rintro e w2 ⟨rfl, hb2⟩
              have HB8 := Lib.hid (HB7.out.trans (hb2.mono HB7.out.size))
              clear hb2 HB7
              go_wp2_with fail
              refine (HQ.out _).mono ?_
              rintro e w2 ⟨rfl, hb2⟩
              have HB9 := Lib.hid (HB8.out.trans (hb2.mono HB8.out.size))
              clear hb2 HB8
              go_wp2_with fail
              refine (HBr.out _).mono ?_
              rintro e w2 ⟨rfl, hb2⟩
              have HB10 := Lib.hid (HB9.out.trans (hb2.mono HB9.out.size))
              clear hb2 HB9
              go_wp2_with fail
              refine (HQ.out _).mono ?_
              rintro e w2 ⟨rfl, hb2⟩
              have HB11 := Lib.hid (HB10.out.trans (hb2.mono HB10.out.size))
              clear hb2 HB10
              go_wp2_with fail
              refine (HH.out _).mono ?_
              rintro e w2 ⟨rfl, hb2⟩
              have HB12 := Lib.hid (HB11.out.trans (hb2.mono HB11.out.size))
              clear hb2 HB11
              go_wp2_with fail
              refine (HU.out _).mono ?_
              rintro e w2 ⟨rfl, hb2⟩
              have HB13 := Lib.hid (HB12.out.trans (hb2.mono HB12.out.size))
              clear hb2 HB12
              go_wp2_with fail
              go_ret
              exact ⟨rfl, HB13.out⟩
            · go_wp2_with fail
              refine (HC.out _).mono ?_
              rintro e w2 ⟨rfl, hb2⟩
              have HB4 := Lib.hid (HB3.out.trans (hb2.mono HB3.out.size))
              clear hb2 HB3
              go_wp2_with fail
              refine (HSa.out _).mono ?_
              rintro e w2 ⟨rfl, hb2⟩
              have HB5 := Lib.hid (HB4.out.trans (hb2.mono HB4.out.size))
              clear hb2 HB4
              go_wp2_with fail
              refine (HSa.out _).mono ?_
              rintro e w2 ⟨rfl, hb2⟩
              have HB6 := Lib.hid (HB5.out.trans (hb2.mono HB5.out.size))
              clear hb2 HB5
              go_wp2_with fail
              refine (HI.out _).mono ?_
              rintro e w2 ⟨rfl, hb2⟩
              have HB7 := Lib.hid (HB6.out.trans (hb2.mono HB6.out.size))
              clear hb2 HB6
              go_wp2_with fail
              refine (HI.out _).mono ?_
              rintro e w2 ⟨rfl, hb2⟩
              have HB8 := Lib.hid (HB7.out.trans (hb2.mono HB7.out.size))
              clear hb2 HB7
              go_wp2_with fail
              refine (HQ.out _).mono ?_
              rintro e w2 ⟨rfl, hb2⟩
              have HB9 := Lib.hid (HB8.out.trans (hb2.mono HB8.out.size))
              clear hb2 HB8
              go_wp2_with fail
              refine (HBr.out _).mono ?_
              rintro e w2 ⟨rfl, hb2⟩
              have HB10 := Lib.hid (HB9.out.trans (hb2.mono HB9.out.size))
              clear hb2 HB9
              go_wp2_with fail
              refine (HQ.out _).mono ?_
              rintro e w2 ⟨rfl, hb2⟩
              have HB11 := Lib.hid (HB10.out.trans (hb2.mono HB10.out.size))
              clear hb2 HB10
              go_wp2_with fail
              refine (HH.out _).mono ?_
              rintro e w2 ⟨rfl, hb2⟩
              have HB12 := Lib.hid (HB11.out.trans (hb2.mono HB11.out.size))
              clear hb2 HB11
              go_wp2_with fail
              refine (HU.out _).mono ?_
              rintro e w2 ⟨rfl, hb2⟩
              have HB13 := Lib.hid (HB12.out.trans (hb2.mono HB12.out.size))
              clear hb2 HB12
              go_wp2_with fail
              refine (HF.out _).mono ?_
              rintro e w2 ⟨rfl, rfl⟩
              go_wp2_with fail
              go_ret
              exact ⟨rfl, HB13.out⟩
            · go_wp2_with fail
              refine (HC.out _).mono ?_
              rintro e w2 ⟨rfl, hb2⟩
              have HB4 := Lib.hid (HB3.out.trans (hb2.mono HB3.out.size))
              clear hb2 HB3
              go_wp2_with fail
              refine (HSa.out _).mono ?_
              rintro e w2 ⟨rfl, hb2⟩
              have HB5 := Lib.hid (HB4.out.trans (hb2.mono HB4.out.size))
              clear hb2 HB4
              go_wp2_with fail
              refine (HSa.out _).mono ?_
              rintro e w2 ⟨rfl, hb2⟩
              have HB6 := Lib.hid (HB5.out.trans (hb2.mono HB5.out.size))
              clear hb2 HB5
              go_wp2_with fail
              refine (HI.out _).mono ?_
              rintro e w2 ⟨rfl, hb2⟩
              have HB7 := Lib.hid (HB6.out.trans (hb2.mono HB6.out.size))
              clear hb2 HB6
              go_wp2_with fail
              refine (HI.out _).mono ?_
              rintro e w2 ⟨rfl, hb2⟩
              have HB8 := Lib.hid (HB7.out.trans (hb2.mono HB7.out.size))
              clear hb2 HB7
              go_wp2_with fail
              refine (HQ.out _).mono ?_
              rintro e w2 ⟨rfl, hb2⟩
              have HB9 := Lib.hid (HB8.out.trans (hb2.mono HB8.out.size))
              clear hb2 HB8
              go_wp2_with fail
              refine (HBr.out _).mono ?_
              rintro e w2 ⟨rfl, hb2⟩
              have HB10 := Lib.hid (HB9.out.trans (hb2.mono HB9.out.size))
              clear hb2 HB9
              go_wp2_with fail
              refine (HQ.out _).mono ?_
              rintro e w2 ⟨rfl, hb2⟩
              have HB11 := Lib.hid (HB10.out.trans (hb2.mono HB10.out.size))
              clear hb2 HB10
              go_wp2_with fail
              refine (HH.out _).mono ?_
              rintro e w2 ⟨rfl, hb2⟩
              have HB12 := Lib.hid (HB11.out.trans (hb2.mono HB11.out.size))
              clear hb2 HB11
              go_wp2_with fail
              refine (HF.out _).mono ?_
              rintro e w2 ⟨rfl, rfl⟩
              go_wp2_with fail
              refine (HU.out _).mono ?_
              rintro e w2 ⟨rfl, hb2⟩
              have HB13 := Lib.hid (HB12.out.trans (hb2.mono HB12.out.size))
              clear hb2 HB12
              go_wp2_with fail
              go_ret
              exact ⟨rfl, HB13.out⟩
            · go_wp2_with fail
              refine (HC.out _).mono ?_
              rintro e w2 ⟨rfl, hb2⟩
              have HB4 := Lib.hid (HB3.out.trans (hb2.mono HB3.out.size))
              clear hb2 HB3
              go_wp2_with fail
              refine (HSa.out _).mono ?_
              rintro e w2 ⟨rfl, hb2⟩
              have HB5 := Lib.hid (HB4.out.trans (hb2.mono HB4.out.size))
              clear hb2 HB4
              go_wp2_with fail
              refine (HSa.out _).mono ?_
              rintro e w2 ⟨rfl, hb2⟩
              have HB6 := Lib.hid (HB5.out.trans (hb2.mono HB5.out.size))
              clear hb2 HB5
              go_wp2_with fail
              refine (HI.out _).mono ?_
              rintro e w2 ⟨rfl, hb2⟩
              have HB7 := Lib.hid (HB6.out.trans (hb2.mono HB6.out.size))
              clear hb2 HB6
              go_wp2_with fail
              refine (HI.out _).mono ?_
              rintro e w2 ⟨rfl, hb2⟩
              have HB8 := Lib.hid (HB7.out.trans (hb2.mono HB7.out.size))
              clear hb2 HB7
              go_wp2_with fail
              refine (HQ.out _).mono ?_
              rintro e w2 ⟨rfl, hb2⟩
              have HB9 := Lib.hid (HB8.out.trans (hb2.mono HB8.out.size))
              clear hb2 HB8
              go_wp2_with fail
              refine (HBr.out _).mono ?_
              rintro e w2 ⟨rfl, hb2⟩
              have HB10 := Lib.hid (HB9.out.trans (hb2.mono HB9.out.size))
              clear hb2 HB9
              go_wp2_with fail
              refine (HQ.out _).mono ?_
              rintro e w2 ⟨rfl, hb2⟩
              have HB11 := Lib.hid (HB10.out.trans (hb2.mono HB10.out.size))
              clear hb2 HB10
              go_wp2_with fail
              refine (HH.out _).mono ?_
              rintro e w2 ⟨rfl, hb2⟩
              have HB12 := Lib.hid (HB11.out.trans (hb2.mono HB11.out.size))
              clear hb2 HB11
              go_wp2_with fail
              refine (HF.out _).mono ?_
              rintro e w2 ⟨rfl, rfl⟩
              go_wp2_with fail
              refine (HU.out _).mono ?_
              rintro e w2 ⟨rfl, hb2⟩
              have HB13 := Lib.hid (HB12.out.trans (hb2.mono HB12.out.size))
              clear hb2 HB12
              go_wp2_with fail
              refine (HF.out _).mono ?_
              rintro e w2 ⟨rfl, rfl⟩
              go_wp2_with fail
              go_ret
              exact ⟨rfl, HB13.out⟩
theorem mless_anyS (s : ByteArray) (n : Int) (w : World) : Calls Try.prog 5 #[.string s, .int .i64 n] w fun e w' => e = .returned (.bool true) ∧ Below w.heap.size w w' := by
  have h := mless_any (bs s) n w
  rw [mkS_bs] at h
  exact h
end Tk
end Go.Proofs.Ytnbipbeeengiaaa
