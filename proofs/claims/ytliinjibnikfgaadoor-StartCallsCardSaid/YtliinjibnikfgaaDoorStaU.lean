/- start.Target: what a target denotes: one with a host. -/
import Derived.Test.YtliinjibnikfgaaDoorStaT
import Derived.Lib.IndexAny
import Derived.Shelf.Strings.SlTrimAscii
namespace Go.Proofs.YtliinjibnikfgaaDoor
open Go.RowKit
namespace Tk

theorem ixa_cons (b : UInt8) (l ch : Bs) : Lib.indexAny (b :: l) ch = if ch.contains b then 0 else if Lib.indexAny l ch == -1 then -1 else Lib.indexAny l ch + 1 := rfl
theorem ix_end : ∀ l : Bs, (Lib.indexAny l [47, 63] = -1 ∧ l.takeWhile noEnd = l ∧ l.dropWhile noEnd = []) ∨ ∃ i : Nat, Lib.indexAny l [47, 63] = i ∧ i < l.length ∧ l.takeWhile noEnd = l.take i ∧ l.dropWhile noEnd = l.drop i
  | [] => .inl ⟨rfl, rfl, rfl⟩
  | b :: t => by
    rw [ixa_cons]
    by_cases hb : ([47, 63] : Bs).contains b
    · right
      refine ⟨0, by rw [if_pos hb]; rfl, by simp, ?_, ?_⟩
      all_goals
        have hn : noEnd b = false := by
          unfold noEnd
          simp at hb
          rcases hb with rfl | rfl <;> rfl
      · rw [List.takeWhile_cons, hn]; rfl
      · rw [List.dropWhile_cons, hn]; rfl
    · have hn : noEnd b = true := by
        unfold noEnd
        simp at hb
        simp [hb]
      rw [if_neg hb]
      rcases ix_end t with ⟨h1, h2, h3⟩ | ⟨i, h1, hi, h2, h3⟩
      · left
        refine ⟨by rw [h1]; rfl, ?_, ?_⟩
        · rw [List.takeWhile_cons, hn, if_pos rfl, h2]
        · rw [List.dropWhile_cons, hn, if_pos rfl, h3]
      · right
        have h4 : ((i : Int) == -1) = false := by rw [beq_eq_false_iff_ne]; omega
        refine ⟨i + 1, by rw [h1, h4]; simp, by simp; omega, ?_, ?_⟩
        · rw [List.takeWhile_cons, hn, if_pos rfl, h2, List.take_succ_cons]
        · rw [List.dropWhile_cons, hn, if_pos rfl, h3, List.drop_succ_cons]

theorem Thr.draws {w : World} {g : Nat} {T : TypeId} {a b c : Value} (h : Thr w g T a b c) (n : Nat) : Thr (w.drewN n) g T a b c := h
theorem below_draw {w0 w : World} {B : Nat} (h : Below B w0 w) (n : Nat) : Below B w0 (w.drewN n) := h.trans ⟨rfl, rfl, rfl, Nat.le_refl _, fun _ _ => rfl⟩

def absL (s : Bs) : Nat × Bs × Bs := if absOk s = true then (2, lowL (tHost s), tPath s) else (0, [], [])

theorem low_scheme : lowL schemeL = schemeL := by decide
theorem vis_ascii (l : Bs) (h : l.all vis = true) : ∀ (j : Nat) b, l[j]? = some b → b.toNat < 128 := by
  intro j b hj
  have hm : b ∈ l := List.mem_of_getElem? hj
  have := List.all_eq_true.1 h b hm
  unfold vis at this
  simp at this
  omega

theorem asciiZ : (Tryd.prog.info? 122).map (fun i => (i.zero, i.size)) = some (some (.agg (Array.replicate 256 (.bool false))), 256) := by kernel_rfl

theorem pre_true (P : Bs) : Lib.hasPrefix P [47] = true → P ≠ [] := by
  intro h e; subst e; exact absurd h (by decide)

set_option maxHeartbeats 8000000 in
set_option maxRecDepth 100000 in
theorem absolute_any (s : ByteArray) (w : World) (hs : s.size ≤ 1000000000) (hv : (bs s).all vis = true) :
    Calls Tryd.prog 78 #[.string s] w (TgPost (absL (bs s)) w) := by
  have HN := Lib.hid (Thr.new w 32 (.int .i64 0) (.string ⟨#[]⟩) (.string ⟨#[]⟩))
  have HB0 := Lib.hid (show Below w.heap.size w (w.alloc (.cells #[.int .i64 0, .string ⟨#[]⟩, .string ⟨#[]⟩] 32)) from (Below.refl _ _).alloc (Nat.le_refl _) _)
  have hA : absL (bs s) = if absOk (bs s) = true then (2, lowL (tHost (bs s)), tPath (bs s)) else (0, [], []) := rfl
  have hok : absOk (bs s) = (decide (lowL ((bs s).take 7) = schemeL) && hostL (tHost (bs s))) := rfl
  have hzs := length_bs s
  obtain ⟨b, hb⟩ : ∃ b : Nat, b = min 7 s.size := ⟨_, rfl⟩
  have hbs : b ≤ s.size := by omega
  have hmin : min (7 : Int) (s.size : Int) = (b : Int) := by omega
  have hx : bs (s.extract b s.size) = (bs s).drop 7 := by
    rw [bs_extract, List.take_of_length_le (by rw [List.length_drop, length_bs]; exact Nat.le_refl _)]
    by_cases h7 : 7 ≤ s.size
    · rw [show b = 7 by omega]
    · rw [List.drop_eq_nil_of_le (by omega), List.drop_eq_nil_of_le (by omega)]
  have hpx : bs (s.extract 0 b) = (bs s).take 7 := by
    rw [bs_extract, List.drop_zero, Nat.sub_zero]
    by_cases h7 : 7 ≤ s.size
    · rw [show b = 7 by omega]
    · rw [List.take_of_length_le (by omega), List.take_of_length_le (by omega)]
  have hxz : (s.extract b s.size).size = s.size - b := by rw [← length_bs, hx, List.length_drop, length_bs]; omega
  have hpz : (s.extract 0 b).size = b := by rw [← length_bs, hpx, List.length_take, length_bs]; omega
  have hasc := vis_ascii ((bs s).drop 7) (by
    rw [List.all_eq_true] at hv ⊢
    exact fun x hx => hv x (List.mem_of_mem_drop hx))
  have hia := fun W => Any.strings_IndexAny_laid Tryd.lays153 asciiZ (s.extract b s.size) ⟨#[47, 63]⟩ W (by omega) (by decide) (by rw [show (s.extract b s.size).data.toList = bs (s.extract b s.size) from rfl, hx]; exact hasc) (ascii_of_all (by decide))
  have hia2 : ∀ W, Calls Tryd.prog 115 #[.string (s.extract b s.size), .string ⟨#[47, 63]⟩] W fun e w' => e = .returned (.int .i64 (Lib.indexAny ((bs s).drop 7) [47, 63])) ∧ Below W.heap.size W w' := by
    rw [← hx]; exact hia
  have hsm := fun W => tsame_any (s.extract 0 b) ⟨#[104, 116, 116, 112, 58, 47, 47]⟩ W (by omega) (by decide)
  rw [hpx, show bs ⟨#[104, 116, 116, 112, 58, 47, 47]⟩ = schemeL from rfl, low_scheme] at hsm
  have htz : (tHost (bs s)).length ≤ s.size := by
    have := ((List.takeWhile_sublist noEnd (l := (bs s).drop 7)).length_le)
    rw [List.length_drop] at this
    unfold tHost; omega
  have hrz : (tRest (bs s)).length ≤ s.size := by
    have := ((List.dropWhile_sublist noEnd (l := (bs s).drop 7)).length_le)
    rw [List.length_drop] at this
    unfold tRest; omega
  have hho := fun W => host_any (mkS (tHost (bs s))) W (by rw [size_mkS]; omega)
  have hlo := fun W => show Calls Tryd.prog 114 #[.string (mkS (tHost (bs s)))] W (fun e w' => e = .returned (.string (mkS (lowL (bs (mkS (tHost (bs s))))))) ∧ Below W.heap.size W w') from tlower_any (mkS (tHost (bs s))) W (by rw [size_mkS]; omega)
  rw [bs_mkS] at hho hlo
  have hhp := fun W => Tryd.strings_HasPrefix (mkS (tRest (bs s))) ⟨#[47]⟩ W
  have hhp2 : ∀ W, Calls Tryd.prog 116 #[.string (mkS (tRest (bs s))), .string ⟨#[47]⟩] W fun e w' => e = .returned (.bool (Lib.hasPrefix (tRest (bs s)) [47])) ∧ w' = W := hhp
  have hcl := fun W => clone_any (mkS (tPath (bs s))) W (by
    rw [size_mkS]; unfold tPath; split
    · omega
    · rw [List.length_cons]; omega)
  rw [bs_mkS] at hcl
  have hcl2 : ∀ W, Calls Tryd.prog 56 #[.string (mkS (tPath (bs s)))] W fun e w' => e = .returned (.string (mkS (tPath (bs s)))) ∧ Below W.heap.size W w' := hcl
  have htp : tPath (bs s) = if Lib.hasPrefix (tRest (bs s)) [47] then tRest (bs s) else 47 :: tRest (bs s) := rfl
  have hrs : (mkS (tRest (bs s))).size ≤ s.size := by rw [size_mkS]; exact hrz
  have hiz : (s.extract b s.size).size ≤ s.size := by omega
  clear hia hhp hcl hasc hv hpz hzs hb
  have hends := ix_end ((bs s).drop 7)
  have hth : tHost (bs s) = ((bs s).drop 7).takeWhile noEnd := rfl
  have htr : tRest (bs s) = ((bs s).drop 7).dropWhile noEnd := rfl
  rw [← hth, ← htr] at hends
  have HS := Lib.hid hsm
  have HHo := Lib.hid hho
  have HLo := Lib.hid hlo
  have HHp := Lib.hid hhp2
  have HCl := Lib.hid hcl2
  have HX := Lib.hid hx
  have HXZ := Lib.hid hxz
  clear hsm hho hlo hhp2 hcl2 hx hxz hth htr htz hrz
  rcases hends with ⟨x1, x2, x3⟩ | ⟨i, x1, xi, x2, x3⟩
  · rw [x1] at hia2
    have HI := Lib.hid hia2
    have hT : mkS (tHost (bs s)) = s.extract b s.size := by rw [x2, ← HX.out, mkS_bs]
    have hR : mkS (tRest (bs s)) = ⟨#[]⟩ := by rw [x3]; rfl
    have HT := Lib.hid hT
    have HR := Lib.hid hR
    clear hia2 x1 x2 x3 hT hR
    cases h1 : decide (lowL ((bs s).take 7) = schemeL)
    · have HV := Lib.hid (show absL (bs s) = (0, [], []) by rw [hA, if_neg (by rw [hok, h1]; simp)])
      rw [h1] at HS
      have HS2 := HS
      clear hA hok h1 htp HS HHo HLo HHp HCl HX
      go_enter Tryd.func78, Tryd.ntmps78
      go_wp2_with fail
      generalize w.alloc (.cells #[.int .i64 0, .string ⟨#[]⟩, .string ⟨#[]⟩] 32) = W0 at *
      refine (HI.out _).mono ?_
      rintro e w1 ⟨rfl, hb⟩
      have HN1 := Lib.hid (HN.out.later hb)
      have HB1 := Lib.hid (HB0.out.trans (hb.mono HB0.out.size))
      clear hb
      go_wp2_with fail
      have HN2 := HN1
      have HB2 := HB1
      refine (HS2.out _).mono ?_
      rintro e w3 ⟨rfl, n3, rfl⟩
      have HN3 := HN2.out.draws n3
      have HB3 := Lib.hid (below_draw HB2.out n3)
      have q0 := HN3.c0
      have q1 := HN3.c1
      have q2 := HN3.c2
      have r0 := HN3.f0
      have r1 := HN3.f1
      have r2 := HN3.f2
      have hlt := HN3.lt
      have HH := Lib.hid HN3
      clear HN3
      go_wp2_with fail
      obtain ⟨z0, z1, z2⟩ := HH.out.put (.int .i64 0) (.string ⟨#[]⟩) (.string ⟨#[]⟩)
      refine bodyPost_ret (v := .tuple #[.agg #[.int .i64 0, .string ⟨#[]⟩, .string ⟨#[]⟩], .int .i64 400]) ?_ rfl ⟨?_, Thr.below HB3.out (Nat.le_refl _) _ _ _⟩
      · simp [results, Tryd.results78, go_sem, z0, z1, z2]
      · rw [HV.out]; rfl
    · rw [h1] at HS
      have HS2 := HS
      rw [HT.out] at HHo HLo
      rw [HR.out] at HHp
      cases h2 : hostL (tHost (bs s))
      · rw [h2] at HHo
        have HV := Lib.hid (show absL (bs s) = (0, [], []) by rw [hA, if_neg (by rw [hok, h1, h2]; simp)])
        clear hA hok h1 h2 htp HS HLo HHp HCl HX
        go_enter Tryd.func78, Tryd.ntmps78
        go_wp2_with fail
        generalize w.alloc (.cells #[.int .i64 0, .string ⟨#[]⟩, .string ⟨#[]⟩] 32) = W0 at *
        refine (HI.out _).mono ?_
        rintro e w1 ⟨rfl, hb⟩
        have HN1 := Lib.hid (HN.out.later hb)
        have HB1 := Lib.hid (HB0.out.trans (hb.mono HB0.out.size))
        clear hb
        go_wp2_with fail
        have HN2 := HN1
        have HB2 := HB1
        refine (HS2.out _).mono ?_
        rintro e w3 ⟨rfl, n3, rfl⟩
        have HN3 := Lib.hid (HN2.out.draws n3)
        have HB3 := Lib.hid (below_draw HB2.out n3)
        go_wp2_with fail
        refine (HHo.out _).mono ?_
        rintro e w4 ⟨rfl, hb⟩
        have HN4 := HN3.out.later hb
        have HB4 := Lib.hid (HB3.out.trans (hb.mono HB3.out.size))
        have q0 := HN4.c0
        have q1 := HN4.c1
        have q2 := HN4.c2
        have r0 := HN4.f0
        have r1 := HN4.f1
        have r2 := HN4.f2
        have hlt := HN4.lt
        have HH := Lib.hid HN4
        clear hb HN4
        go_wp2_with fail
        obtain ⟨z0, z1, z2⟩ := HH.out.put (.int .i64 0) (.string ⟨#[]⟩) (.string ⟨#[]⟩)
        refine bodyPost_ret (v := .tuple #[.agg #[.int .i64 0, .string ⟨#[]⟩, .string ⟨#[]⟩], .int .i64 400]) ?_ rfl ⟨?_, Thr.below HB4.out (Nat.le_refl _) _ _ _⟩
        · simp [results, Tryd.results78, go_sem, z0, z1, z2]
        · rw [HV.out]; rfl
      · rw [h2] at HHo
        have HV := Lib.hid (show absL (bs s) = (2, lowL (tHost (bs s)), tPath (bs s)) by rw [hA, if_pos (by rw [hok, h1, h2]; rfl)])
        cases h3 : Lib.hasPrefix (tRest (bs s)) [47]
        · rw [h3] at HHp htp
          have hpp : mkS (tPath (bs s)) = ⟨#[47]⟩ ++ mkS (tRest (bs s)) := by
            rw [htp, show (⟨#[47]⟩ : ByteArray) = mkS [47] from rfl, mkS_append]; rfl
          rw [HR.out] at hpp hrs
          have hcl := HCl.out
          rw [hpp] at hcl
          have HCl2 := Lib.hid hcl
          have HPP := Lib.hid hpp
          clear hA hok h1 h2 h3 htp HS HCl HX hcl hpp
          go_enter Tryd.func78, Tryd.ntmps78
          go_wp2_with fail
          generalize w.alloc (.cells #[.int .i64 0, .string ⟨#[]⟩, .string ⟨#[]⟩] 32) = W0 at *
          refine (HI.out _).mono ?_
          rintro e w1 ⟨rfl, hb⟩
          have HN1 := Lib.hid (HN.out.later hb)
          have HB1 := Lib.hid (HB0.out.trans (hb.mono HB0.out.size))
          clear hb
          go_wp2_with fail
          have HN2 := HN1
          have HB2 := HB1
          refine (HS2.out _).mono ?_
          rintro e w3 ⟨rfl, n3, rfl⟩
          have HN3 := Lib.hid (HN2.out.draws n3)
          have HB3 := Lib.hid (below_draw HB2.out n3)
          go_wp2_with fail
          refine (HHo.out _).mono ?_
          rintro e w4 ⟨rfl, hb⟩
          have HN4 := Lib.hid (HN3.out.later hb)
          have HB4 := Lib.hid (HB3.out.trans (hb.mono HB3.out.size))
          clear hb
          go_wp2_with fail
          refine (HHp.out _).mono ?_
          rintro e w' ⟨rfl, hw⟩
          subst hw
          go_wp2_with fail
          refine (HLo.out _).mono ?_
          rintro e w5 ⟨rfl, hb⟩
          have HN5 := Lib.hid (HN4.out.later hb)
          have HB5 := Lib.hid (HB4.out.trans (hb.mono HB4.out.size))
          clear hb
          go_wp2_with fail
          refine (HCl2.out _).mono ?_
          rintro e w6 ⟨rfl, hb⟩
          have HN6 := HN5.out.later hb
          have HB6 := Lib.hid (HB5.out.trans (hb.mono HB5.out.size))
          have q0 := HN6.c0
          have q1 := HN6.c1
          have q2 := HN6.c2
          have r0 := HN6.f0
          have r1 := HN6.f1
          have r2 := HN6.f2
          have hlt := HN6.lt
          have HH := Lib.hid HN6
          clear hb HN6
          go_wp2_with fail
          obtain ⟨z0, z1, z2⟩ := HH.out.put (.int .i64 2) (.string (mkS (lowL (tHost (bs s))))) (.string (⟨#[47]⟩ ++ ⟨#[]⟩))
          refine bodyPost_ret (v := .tuple #[.agg #[.int .i64 2, .string (mkS (lowL (tHost (bs s)))), .string (⟨#[47]⟩ ++ ⟨#[]⟩)], .int .i64 0]) ?_ rfl ⟨?_, Thr.below HB6.out (Nat.le_refl _) _ _ _⟩
          · simp [results, Tryd.results78, go_sem, z0, z1, z2]
          · rw [HV.out]
            show _ = Ending.returned (.tuple #[.agg #[_, _, .string (mkS (tPath (bs s)))], _])
            rw [HPP.out]; rfl
        · rw [h3] at HHp htp
          have hpp : mkS (tPath (bs s)) = mkS (tRest (bs s)) := by rw [htp]; rfl
          rw [HR.out] at hpp hrs
          exfalso
          have h4 := congrArg bs HR.out
          rw [bs_mkS] at h4
          exact pre_true _ h3 h4
  · rw [x1] at hia2
    have HI := Lib.hid hia2
    have hT : mkS (tHost (bs s)) = (s.extract b s.size).extract 0 i := by rw [x2, ← HX.out, extract_mkS (s.extract b s.size) 0 i]; simp
    have hR : mkS (tRest (bs s)) = (s.extract b s.size).extract i (s.size - b) := by
      rw [x3, ← HX.out, extract_mkS (s.extract b s.size) i _, List.take_of_length_le]
      rw [List.length_drop, length_bs, HXZ.out]; exact Nat.le_refl _
    have c1 : (0 : Int) ≤ (i : Int) := by omega
    have xi2 : i < (s.extract b s.size).size := by rw [← length_bs, HX.out]; exact xi
    have c2 : (i : Int) ≤ ((s.extract b s.size).size : Int) := by omega
    have HT := Lib.hid hT
    have HR := Lib.hid hR
    clear hia2 x1 x2 x3 hT hR xi xi2
    cases h1 : decide (lowL ((bs s).take 7) = schemeL)
    · have HV := Lib.hid (show absL (bs s) = (0, [], []) by rw [hA, if_neg (by rw [hok, h1]; simp)])
      rw [h1] at HS
      have HS2 := HS
      clear hA hok h1 htp HS HHo HLo HHp HCl HX
      go_enter Tryd.func78, Tryd.ntmps78
      go_wp2_with fail
      generalize w.alloc (.cells #[.int .i64 0, .string ⟨#[]⟩, .string ⟨#[]⟩] 32) = W0 at *
      refine (HI.out _).mono ?_
      rintro e w1 ⟨rfl, hb⟩
      have HN1 := Lib.hid (HN.out.later hb)
      have HB1 := Lib.hid (HB0.out.trans (hb.mono HB0.out.size))
      clear hb
      go_wp2_with fail
      go_quiet (fail)
      have HN2 := Lib.hid (HN1.out.draws nq)
      have HB2 := Lib.hid (below_draw HB1.out nq)
      generalize w1.drewN nq = w2 at *
      go_wp2_with fail
      refine (HS2.out _).mono ?_
      rintro e w3 ⟨rfl, n3, rfl⟩
      have HN3 := HN2.out.draws n3
      have HB3 := Lib.hid (below_draw HB2.out n3)
      have q0 := HN3.c0
      have q1 := HN3.c1
      have q2 := HN3.c2
      have r0 := HN3.f0
      have r1 := HN3.f1
      have r2 := HN3.f2
      have hlt := HN3.lt
      have HH := Lib.hid HN3
      clear HN3
      go_wp2_with fail
      obtain ⟨z0, z1, z2⟩ := HH.out.put (.int .i64 0) (.string ⟨#[]⟩) (.string ⟨#[]⟩)
      refine bodyPost_ret (v := .tuple #[.agg #[.int .i64 0, .string ⟨#[]⟩, .string ⟨#[]⟩], .int .i64 400]) ?_ rfl ⟨?_, Thr.below HB3.out (Nat.le_refl _) _ _ _⟩
      · simp [results, Tryd.results78, go_sem, z0, z1, z2]
      · rw [HV.out]; rfl
    · rw [h1] at HS
      have HS2 := HS
      rw [HT.out] at HHo HLo
      rw [HR.out] at HHp
      cases h2 : hostL (tHost (bs s))
      · rw [h2] at HHo
        have HV := Lib.hid (show absL (bs s) = (0, [], []) by rw [hA, if_neg (by rw [hok, h1, h2]; simp)])
        clear hA hok h1 h2 htp HS HLo HHp HCl HX
        go_enter Tryd.func78, Tryd.ntmps78
        go_wp2_with fail
        generalize w.alloc (.cells #[.int .i64 0, .string ⟨#[]⟩, .string ⟨#[]⟩] 32) = W0 at *
        refine (HI.out _).mono ?_
        rintro e w1 ⟨rfl, hb⟩
        have HN1 := Lib.hid (HN.out.later hb)
        have HB1 := Lib.hid (HB0.out.trans (hb.mono HB0.out.size))
        clear hb
        go_wp2_with fail
        go_quiet (fail)
        have HN2 := Lib.hid (HN1.out.draws nq)
        have HB2 := Lib.hid (below_draw HB1.out nq)
        generalize w1.drewN nq = w2 at *
        go_wp2_with fail
        refine (HS2.out _).mono ?_
        rintro e w3 ⟨rfl, n3, rfl⟩
        have HN3 := Lib.hid (HN2.out.draws n3)
        have HB3 := Lib.hid (below_draw HB2.out n3)
        go_wp2_with fail
        refine (HHo.out _).mono ?_
        rintro e w4 ⟨rfl, hb⟩
        have HN4 := HN3.out.later hb
        have HB4 := Lib.hid (HB3.out.trans (hb.mono HB3.out.size))
        have q0 := HN4.c0
        have q1 := HN4.c1
        have q2 := HN4.c2
        have r0 := HN4.f0
        have r1 := HN4.f1
        have r2 := HN4.f2
        have hlt := HN4.lt
        have HH := Lib.hid HN4
        clear hb HN4
        go_wp2_with fail
        obtain ⟨z0, z1, z2⟩ := HH.out.put (.int .i64 0) (.string ⟨#[]⟩) (.string ⟨#[]⟩)
        refine bodyPost_ret (v := .tuple #[.agg #[.int .i64 0, .string ⟨#[]⟩, .string ⟨#[]⟩], .int .i64 400]) ?_ rfl ⟨?_, Thr.below HB4.out (Nat.le_refl _) _ _ _⟩
        · simp [results, Tryd.results78, go_sem, z0, z1, z2]
        · rw [HV.out]; rfl
      · rw [h2] at HHo
        have HV := Lib.hid (show absL (bs s) = (2, lowL (tHost (bs s)), tPath (bs s)) by rw [hA, if_pos (by rw [hok, h1, h2]; rfl)])
        cases h3 : Lib.hasPrefix (tRest (bs s)) [47]
        · rw [h3] at HHp htp
          have hpp : mkS (tPath (bs s)) = ⟨#[47]⟩ ++ mkS (tRest (bs s)) := by
            rw [htp, show (⟨#[47]⟩ : ByteArray) = mkS [47] from rfl, mkS_append]; rfl
          rw [HR.out] at hpp hrs
          have hcl := HCl.out
          rw [hpp] at hcl
          have HCl2 := Lib.hid hcl
          have HPP := Lib.hid hpp
          have hsz : ((⟨#[47]⟩ : ByteArray).size : Int) + (((s.extract b s.size).extract i (s.size - b)).size : Int) ≤ 9223372036854775807 := by
            have : (⟨#[47]⟩ : ByteArray).size = 1 := rfl
            omega
          clear hA hok h1 h2 h3 htp HS HCl HX hcl hpp
          go_enter Tryd.func78, Tryd.ntmps78
          go_wp2_with fail
          generalize w.alloc (.cells #[.int .i64 0, .string ⟨#[]⟩, .string ⟨#[]⟩] 32) = W0 at *
          refine (HI.out _).mono ?_
          rintro e w1 ⟨rfl, hb⟩
          have HN1 := Lib.hid (HN.out.later hb)
          have HB1 := Lib.hid (HB0.out.trans (hb.mono HB0.out.size))
          clear hb
          go_wp2_with fail
          go_quiet (fail)
          have HN2 := Lib.hid (HN1.out.draws nq)
          have HB2 := Lib.hid (below_draw HB1.out nq)
          generalize w1.drewN nq = w2 at *
          go_wp2_with fail
          refine (HS2.out _).mono ?_
          rintro e w3 ⟨rfl, n3, rfl⟩
          have HN3 := Lib.hid (HN2.out.draws n3)
          have HB3 := Lib.hid (below_draw HB2.out n3)
          go_wp2_with fail
          refine (HHo.out _).mono ?_
          rintro e w4 ⟨rfl, hb⟩
          have HN4 := Lib.hid (HN3.out.later hb)
          have HB4 := Lib.hid (HB3.out.trans (hb.mono HB3.out.size))
          clear hb
          go_wp2_with fail
          refine (HHp.out _).mono ?_
          rintro e w' ⟨rfl, hw⟩
          subst hw
          go_wp2_with fail
          refine (HLo.out _).mono ?_
          rintro e w5 ⟨rfl, hb⟩
          have HN5 := Lib.hid (HN4.out.later hb)
          have HB5 := Lib.hid (HB4.out.trans (hb.mono HB4.out.size))
          clear hb
          go_wp2_with fail
          refine (HCl2.out _).mono ?_
          rintro e w6 ⟨rfl, hb⟩
          have HN6 := HN5.out.later hb
          have HB6 := Lib.hid (HB5.out.trans (hb.mono HB5.out.size))
          have q0 := HN6.c0
          have q1 := HN6.c1
          have q2 := HN6.c2
          have r0 := HN6.f0
          have r1 := HN6.f1
          have r2 := HN6.f2
          have hlt := HN6.lt
          have HH := Lib.hid HN6
          clear hb HN6
          go_wp2_with fail
          obtain ⟨z0, z1, z2⟩ := HH.out.put (.int .i64 2) (.string (mkS (lowL (tHost (bs s))))) (.string (⟨#[47]⟩ ++ (s.extract b s.size).extract i (s.size - b)))
          refine bodyPost_ret (v := .tuple #[.agg #[.int .i64 2, .string (mkS (lowL (tHost (bs s)))), .string (⟨#[47]⟩ ++ (s.extract b s.size).extract i (s.size - b))], .int .i64 0]) ?_ rfl ⟨?_, Thr.below HB6.out (Nat.le_refl _) _ _ _⟩
          · simp [results, Tryd.results78, go_sem, z0, z1, z2]
          · rw [HV.out]
            show _ = Ending.returned (.tuple #[.agg #[_, _, .string (mkS (tPath (bs s)))], _])
            rw [HPP.out]; rfl
        · rw [h3] at HHp htp
          have hpp : mkS (tPath (bs s)) = mkS (tRest (bs s)) := by rw [htp]; rfl
          rw [HR.out] at hpp hrs
          have hcl := HCl.out
          rw [hpp] at hcl
          have HCl2 := Lib.hid hcl
          have HPP := Lib.hid hpp
          clear hA hok h1 h2 h3 htp HS HCl HX hcl hpp
          go_enter Tryd.func78, Tryd.ntmps78
          go_wp2_with fail
          generalize w.alloc (.cells #[.int .i64 0, .string ⟨#[]⟩, .string ⟨#[]⟩] 32) = W0 at *
          refine (HI.out _).mono ?_
          rintro e w1 ⟨rfl, hb⟩
          have HN1 := Lib.hid (HN.out.later hb)
          have HB1 := Lib.hid (HB0.out.trans (hb.mono HB0.out.size))
          clear hb
          go_wp2_with fail
          go_quiet (fail)
          have HN2 := Lib.hid (HN1.out.draws nq)
          have HB2 := Lib.hid (below_draw HB1.out nq)
          generalize w1.drewN nq = w2 at *
          go_wp2_with fail
          refine (HS2.out _).mono ?_
          rintro e w3 ⟨rfl, n3, rfl⟩
          have HN3 := Lib.hid (HN2.out.draws n3)
          have HB3 := Lib.hid (below_draw HB2.out n3)
          go_wp2_with fail
          refine (HHo.out _).mono ?_
          rintro e w4 ⟨rfl, hb⟩
          have HN4 := Lib.hid (HN3.out.later hb)
          have HB4 := Lib.hid (HB3.out.trans (hb.mono HB3.out.size))
          clear hb
          go_wp2_with fail
          refine (HHp.out _).mono ?_
          rintro e w' ⟨rfl, hw⟩
          subst hw
          go_wp2_with fail
          refine (HLo.out _).mono ?_
          rintro e w5 ⟨rfl, hb⟩
          have HN5 := Lib.hid (HN4.out.later hb)
          have HB5 := Lib.hid (HB4.out.trans (hb.mono HB4.out.size))
          clear hb
          go_wp2_with fail
          refine (HCl2.out _).mono ?_
          rintro e w6 ⟨rfl, hb⟩
          have HN6 := HN5.out.later hb
          have HB6 := Lib.hid (HB5.out.trans (hb.mono HB5.out.size))
          have q0 := HN6.c0
          have q1 := HN6.c1
          have q2 := HN6.c2
          have r0 := HN6.f0
          have r1 := HN6.f1
          have r2 := HN6.f2
          have hlt := HN6.lt
          have HH := Lib.hid HN6
          clear hb HN6
          go_wp2_with fail
          obtain ⟨z0, z1, z2⟩ := HH.out.put (.int .i64 2) (.string (mkS (lowL (tHost (bs s))))) (.string ((s.extract b s.size).extract i (s.size - b)))
          refine bodyPost_ret (v := .tuple #[.agg #[.int .i64 2, .string (mkS (lowL (tHost (bs s)))), .string ((s.extract b s.size).extract i (s.size - b))], .int .i64 0]) ?_ rfl ⟨?_, Thr.below HB6.out (Nat.le_refl _) _ _ _⟩
          · simp [results, Tryd.results78, go_sem, z0, z1, z2]
          · rw [HV.out]
            show _ = Ending.returned (.tuple #[.agg #[_, _, .string (mkS (tPath (bs s)))], _])
            rw [HPP.out]; rfl
end Tk
end Go.Proofs.YtliinjibnikfgaaDoor
