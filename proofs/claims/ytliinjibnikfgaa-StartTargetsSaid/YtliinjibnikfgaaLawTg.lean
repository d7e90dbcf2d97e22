/- The law StartTargets: its walk. -/
import Derived.Test.YtliinjibnikfgaaStaL
import Derived.Test.YtliinjibnikfgaaRefL
import Derived.Deep.RegionHeld3
namespace Go.Proofs.Ytliinjibnikfgaa
open Go.RowKit
namespace Tk

set_option maxRecDepth 100000 in
set_option maxHeartbeats 2000000 in
theorem targets_big (m p h : ByteArray) (w : World) (hb : ¬ m.size ≤ 20 ∨ (m.size ≤ 20 ∧ ¬ p.size ≤ 100) ∨ (m.size ≤ 20 ∧ p.size ≤ 100 ∧ ¬ h.size ≤ 100)) :
    Calls Try.prog 3 #[.string m, .string p, .string h] w (Yes3 w) := by
  have HL := Lib.hid (lives03_any w)
  rcases hb with hb | ⟨h0, hb⟩ | ⟨h0, h1, hb⟩
  all_goals
    go_enter Try.func3, Try.ntmps3
    go_wp2_with fail
    refine HL.out.mono ?_
    rintro e w1 ⟨rfl, hb⟩
    have HB := Lib.hid hb
    clear hb
    go_wp2_with fail
    go_ret
    exact ⟨rfl, HB.out⟩

theorem thr_new (w : World) (T : TypeId) (a b c : Value) : (w.alloc (Obj.cells #[a, b, c] T)).cell? ⟨w.heap.size, 0, none⟩ = some a ∧ (w.alloc (Obj.cells #[a, b, c] T)).cell? ⟨w.heap.size, 2, none⟩ = some c := ⟨(Thr.new w T a b c).c0, (Thr.new w T a b c).c2⟩

set_option maxRecDepth 100000 in
set_option maxHeartbeats 4000000 in
theorem targets_other (m p h : ByteArray) (w : World) (hm : m.size ≤ 20) (hp : p.size ≤ 100) (hh : h.size ≤ 100) (f st : Int) (H P : ByteArray)
    (ht : ∀ W, Calls Try.prog 7 #[.string m, .string p] W fun e w' => e = .returned (.tuple #[.agg #[.int .i64 f, .string H, .string P], .int .i64 st]) ∧ Below W.heap.size W w')
    (hf : (f = 0 ∧ st = 400) ∨ (f = 2 ∧ st = 0 ∧ P.toList.isEmpty = false) ∨ (f = 3 ∧ st = 0 ∧ P.toList.isEmpty = true) ∨ (f = 4 ∧ st = 0 ∧ P.toList.isEmpty = true)) :
    Calls Try.prog 3 #[.string m, .string p, .string h] w (Yes3 w) := by
  have HL := Lib.hid (lives03_any w)
  rcases hf with ⟨rfl, rfl⟩ | ⟨rfl, rfl, hP⟩ | ⟨rfl, rfl, hP⟩ | ⟨rfl, rfl, hP⟩
  · have HT := Lib.hid ht
    clear ht
    go_enter Try.func3, Try.ntmps3
    go_wp2_with fail
    refine HL.out.mono ?_
    rintro e w1 ⟨rfl, hb⟩
    have HB := Lib.hid hb
    clear hb
    go_wp2_with fail
    refine (HT.out _).mono ?_
    rintro e w2 ⟨rfl, hb⟩
    have HB2 := Lib.hid (HB.out.trans (hb.mono HB.out.size))
    clear hb
    obtain ⟨q0, q2⟩ := thr_new w2 24 (.int .i64 0) (.string H) (.string P)
    have HB3 := Lib.hid (HB2.out.alloc HB2.out.size (Obj.cells #[.int .i64 0, .string H, .string P] 24))
    go_wp2_with fail
    go_ret
    exact ⟨rfl, HB3.out⟩
  · have HT := Lib.hid ht
    clear ht
    go_enter Try.func3, Try.ntmps3
    go_wp2_with fail
    refine HL.out.mono ?_
    rintro e w1 ⟨rfl, hb⟩
    have HB := Lib.hid hb
    clear hb
    go_wp2_with fail
    refine (HT.out _).mono ?_
    rintro e w2 ⟨rfl, hb⟩
    have HB2 := Lib.hid (HB.out.trans (hb.mono HB.out.size))
    clear hb
    obtain ⟨q0, q2⟩ := thr_new w2 24 (.int .i64 2) (.string H) (.string P)
    have HB3 := Lib.hid (HB2.out.alloc HB2.out.size (Obj.cells #[.int .i64 2, .string H, .string P] 24))
    go_wp2_with fail
    go_ret
    exact ⟨rfl, HB3.out⟩
  · have HT := Lib.hid ht
    clear ht
    go_enter Try.func3, Try.ntmps3
    go_wp2_with fail
    refine HL.out.mono ?_
    rintro e w1 ⟨rfl, hb⟩
    have HB := Lib.hid hb
    clear hb
    go_wp2_with fail
    refine (HT.out _).mono ?_
    rintro e w2 ⟨rfl, hb⟩
    have HB2 := Lib.hid (HB.out.trans (hb.mono HB.out.size))
    clear hb
    obtain ⟨q0, q2⟩ := thr_new w2 24 (.int .i64 3) (.string H) (.string P)
    have HB3 := Lib.hid (HB2.out.alloc HB2.out.size (Obj.cells #[.int .i64 3, .string H, .string P] 24))
    go_wp2_with fail
    go_ret
    exact ⟨rfl, HB3.out⟩
  · have HT := Lib.hid ht
    clear ht
    go_enter Try.func3, Try.ntmps3
    go_wp2_with fail
    refine HL.out.mono ?_
    rintro e w1 ⟨rfl, hb⟩
    have HB := Lib.hid hb
    clear hb
    go_wp2_with fail
    refine (HT.out _).mono ?_
    rintro e w2 ⟨rfl, hb⟩
    have HB2 := Lib.hid (HB.out.trans (hb.mono HB.out.size))
    clear hb
    obtain ⟨q0, q2⟩ := thr_new w2 24 (.int .i64 4) (.string H) (.string P)
    have HB3 := Lib.hid (HB2.out.alloc HB2.out.size (Obj.cells #[.int .i64 4, .string H, .string P] 24))
    go_wp2_with fail
    go_ret
    exact ⟨rfl, HB3.out⟩

set_option maxRecDepth 100000 in
set_option maxHeartbeats 4000000 in
theorem targets_nohost (m p h : ByteArray) (w : World) (hm : m.size ≤ 20) (hp : p.size ≤ 100) (hh : h.size ≤ 100) (hne : p.toList.isEmpty = false)
    (ht : ∀ W, Calls Try.prog 7 #[.string m, .string p] W fun e w' => e = .returned (.tuple #[.agg #[.int .i64 1, .string ⟨#[]⟩, .string p], .int .i64 0]) ∧ Below W.heap.size W w')
    (hk : hostL (bs h) = false) :
    Calls Try.prog 3 #[.string m, .string p, .string h] w (Yes3 w) := by
  have HL := Lib.hid (lives03_any w)
  have HT := Lib.hid ht
  have hho := fun W => host_any h W (by omega)
  rw [hk] at hho
  have HH := Lib.hid hho
  clear ht hho hk
  go_enter Try.func3, Try.ntmps3
  go_wp2_with fail
  refine HL.out.mono ?_
  rintro e w1 ⟨rfl, hb⟩
  have HB := Lib.hid hb
  clear hb
  go_wp2_with fail
  refine (HT.out _).mono ?_
  rintro e w2 ⟨rfl, hb⟩
  have HB2 := Lib.hid (HB.out.trans (hb.mono HB.out.size))
  clear hb
  obtain ⟨q0, q2⟩ := thr_new w2 24 (.int .i64 1) (.string ⟨#[]⟩) (.string p)
  have HB3 := Lib.hid (HB2.out.alloc HB2.out.size (Obj.cells #[.int .i64 1, .string ⟨#[]⟩, .string p] 24))
  go_wp2_with fail
  refine (HH.out _).mono ?_
  rintro e w3 ⟨rfl, hb⟩
  have HB4 := Lib.hid (HB3.out.trans (hb.mono HB3.out.size))
  clear hb
  go_wp2_with fail
  go_ret
  exact ⟨rfl, HB4.out⟩

theorem low_thttp : lowL [104, 84, 84, 112, 58, 47, 47] = schemeL := by decide

set_option maxRecDepth 100000 in
set_option maxHeartbeats 16000000 in
theorem targets_host (m p h : ByteArray) (w : World) (hm : m.size ≤ 20) (hp : p.size ≤ 100) (hh : h.size ≤ 100) (hne : p.toList.isEmpty = false)
    (ht : ∀ W, Calls Try.prog 7 #[.string m, .string p] W fun e w' => e = .returned (.tuple #[.agg #[.int .i64 1, .string ⟨#[]⟩, .string p], .int .i64 0]) ∧ Below W.heap.size W w')
    (hk : hostL (bs h) = true) (hcn : bs m ≠ connectL) (hp0 : (bs p).head? = some 47) (hok : tgtOk (bs p) = true) :
    Calls Try.prog 3 #[.string m, .string p, .string h] w (Yes3 w) := by
  have HL := Lib.hid (lives03_any w)
  have HT := Lib.hid ht
  have hho := fun W => host_any h W (by omega)
  rw [hk] at hho
  have HH := Lib.hid hho
  have hlz : (mkS (lowL (bs h))).size = h.size := by rw [size_mkS, length_lowL, length_bs]
  -- the two texts, and what they denote
  have c1 : bs ((⟨#[104, 116, 116, 112, 58, 47, 47]⟩ : ByteArray) ++ h ++ p) = [104, 116, 116, 112, 58, 47, 47] ++ bs h ++ bs p := by
    conv => lhs; rw [show h = mkS (bs h) from (mkS_bs h).symm, show p = mkS (bs p) from (mkS_bs p).symm, show (⟨#[104, 116, 116, 112, 58, 47, 47]⟩ : ByteArray) = mkS [104, 116, 116, 112, 58, 47, 47] from rfl, mkS_append, mkS_append, bs_mkS]
  have c2 : bs ((⟨#[104, 84, 84, 112, 58, 47, 47]⟩ : ByteArray) ++ mkS (lowL (bs h)) ++ p) = [104, 84, 84, 112, 58, 47, 47] ++ lowL (bs h) ++ bs p := by
    conv => lhs; rw [show p = mkS (bs p) from (mkS_bs p).symm, show (⟨#[104, 84, 84, 112, 58, 47, 47]⟩ : ByteArray) = mkS [104, 84, 84, 112, 58, 47, 47] from rfl, mkS_append, mkS_append, bs_mkS]
  have t1 := tgt_abs (bs m) [104, 116, 116, 112, 58, 47, 47] (bs h) (bs p) hcn rfl low_scheme (by decide) (by decide) hk hp0 hok
  have t2 := tgt_abs (bs m) [104, 84, 84, 112, 58, 47, 47] (lowL (bs h)) (bs p) hcn rfl low_thttp (by decide) (by decide) (by rw [host_low]; exact hk) hp0 hok
  rw [lowL_lowL] at t2
  have z1 : ((⟨#[104, 116, 116, 112, 58, 47, 47]⟩ : ByteArray) ++ h ++ p).size ≤ 1000 := by rw [← length_bs, c1]; simp [length_bs]; omega
  have z2 : ((⟨#[104, 84, 84, 112, 58, 47, 47]⟩ : ByteArray) ++ mkS (lowL (bs h)) ++ p).size ≤ 1000 := by rw [← length_bs, c2]; simp [length_bs, length_lowL]; omega
  have y1 : ((⟨#[104, 116, 116, 112, 58, 47, 47]⟩ : ByteArray) ++ h).size ≤ 1000 := by rw [ByteArray.size_append]; have : (⟨#[104, 116, 116, 112, 58, 47, 47]⟩ : ByteArray).size = 7 := rfl; omega
  have y2 : ((⟨#[104, 84, 84, 112, 58, 47, 47]⟩ : ByteArray) ++ mkS (lowL (bs h))).size ≤ 1000 := by rw [ByteArray.size_append]; have : (⟨#[104, 84, 84, 112, 58, 47, 47]⟩ : ByteArray).size = 7 := rfl; omega
  have r1 := fun W => target_any m ((⟨#[104, 116, 116, 112, 58, 47, 47]⟩ : ByteArray) ++ h ++ p) W (by omega) (by omega)
  have r2 := fun W => target_any m ((⟨#[104, 84, 84, 112, 58, 47, 47]⟩ : ByteArray) ++ mkS (lowL (bs h)) ++ p) W (by omega) (by omega)
  rw [c1, t1] at r1
  rw [c2, t2] at r2
  have r1' : ∀ W, Calls Try.prog 7 #[.string m, .string ((⟨#[104, 116, 116, 112, 58, 47, 47]⟩ : ByteArray) ++ h ++ p)] W fun e w' => e = .returned (.tuple #[.agg #[.int .i64 2, .string (mkS (lowL (bs h))), .string p], .int .i64 0]) ∧ Below W.heap.size W w' := by
    intro W
    have := r1 W
    unfold TgPost tgV at this
    simp only [mkS_bs] at this
    exact this
  have r2' : ∀ W, Calls Try.prog 7 #[.string m, .string ((⟨#[104, 84, 84, 112, 58, 47, 47]⟩ : ByteArray) ++ mkS (lowL (bs h)) ++ p)] W fun e w' => e = .returned (.tuple #[.agg #[.int .i64 2, .string (mkS (lowL (bs h))), .string p], .int .i64 0]) ∧ Below W.heap.size W w' := by
    intro W
    have := r2 W
    unfold TgPost tgV at this
    simp only [mkS_bs] at this
    exact this
  have hrl := fun W => show Calls Try.prog 9 #[.string h] W (fun e w' => e = .returned (.string (mkS (lowL (bs h)))) ∧ Below W.heap.size W w') from refLower_any h W (by omega)
  have R1 := Lib.hid r1'
  have R2 := Lib.hid r2'
  have HR := Lib.hid hrl
  clear ht hho hk c1 c2 t1 t2 z1 z2 r1 r2 r1' r2' hrl hcn hp0 hok
  have hLz : (mkS (lowL (bs h))).size ≤ 100 := by omega
  clear hlz
  generalize mkS (lowL (bs h)) = L at *
  go_enter Try.func3, Try.ntmps3
  go_wp2_with fail
  refine HL.out.mono ?_
  rintro e w1 ⟨rfl, hb⟩
  have HB := Lib.hid hb
  clear hb
  go_wp2_with fail
  refine (HT.out _).mono ?_
  rintro e w2 ⟨rfl, hb⟩
  have HB2 := Lib.hid (HB.out.trans (hb.mono HB.out.size))
  clear hb
  have HN1 := Lib.hid (Thr.new w2 24 (.int .i64 1) (.string ⟨#[]⟩) (.string p))
  have q0 := HN1.out.c0
  have q2 := HN1.out.c2
  have HB3 := Lib.hid (HB2.out.alloc HB2.out.size (Obj.cells #[.int .i64 1, .string ⟨#[]⟩, .string p] 24))
  go_wp2_with fail
  refine (HH.out _).mono ?_
  rintro e w3 ⟨rfl, hb⟩
  have HB4 := Lib.hid (HB3.out.trans (hb.mono HB3.out.size))
  have HN2 := Lib.hid (HN1.out.later hb)
  clear hb q0 q2
  go_wp2_with fail
  refine (R1.out _).mono ?_
  rintro e w4 ⟨rfl, hb⟩
  have HB5 := Lib.hid (HB4.out.trans (hb.mono HB4.out.size))
  have HN3 := Lib.hid (HN2.out.later hb)
  clear hb
  have HM1 := Lib.hid (Thr.new w4 24 (.int .i64 2) (.string L) (.string p))
  have hb6 : Below w4.heap.size w4 (w4.alloc (Obj.cells #[.int .i64 2, .string L, .string p] 24)) := (Below.refl _ _).alloc (Nat.le_refl _) _
  have HB6 := Lib.hid (HB5.out.trans (hb6.mono HB5.out.size))
  have HN4 := Lib.hid (HN3.out.later hb6)
  clear hb6
  go_wp2_with fail
  generalize w4.alloc (Obj.cells #[.int .i64 2, .string L, .string p] 24) = w5 at *
  generalize w4.heap.size = g2 at *
  generalize w2.heap.size = g1 at *
  refine (HR.out _).mono ?_
  rintro e w6 ⟨rfl, hb⟩
  have HB7 := Lib.hid (HB6.out.trans (hb.mono HB6.out.size))
  have HN5 := Lib.hid (HN4.out.later hb)
  have HM2 := Lib.hid (HM1.out.later hb)
  clear hb
  go_wp2_with fail
  refine (R2.out _).mono ?_
  rintro e w7 ⟨rfl, hb⟩
  have HB8 := Lib.hid (HB7.out.trans (hb.mono HB7.out.size))
  have HN6 := Lib.hid (HN5.out.later hb)
  have HM3 := Lib.hid (HM2.out.later hb)
  clear hb
  have HK1 := Thr.new w7 24 (.int .i64 2) (.string L) (.string p)
  have hb9 : Below w7.heap.size w7 (w7.alloc (Obj.cells #[.int .i64 2, .string L, .string p] 24)) := (Below.refl _ _).alloc (Nat.le_refl _) _
  have HB9 := Lib.hid (HB8.out.trans (hb9.mono HB8.out.size))
  have HN7 := HN6.out.later hb9
  have HM4 := HM3.out.later hb9
  have a1 := HN7.c2
  have a2 := HM4.c0
  have a3 := HM4.c1
  have a4 := HM4.c2
  have a5 := HK1.c0
  have a6 := HK1.c1
  have a7 := HK1.c2
  have hl1 := HN7.lt
  have hl2 := HM4.lt
  have hl3 := HK1.lt
  clear hb9 HN7 HM4 HK1
  have hb9 := HB9.out
  go_wp2_with fail
  generalize w7.alloc (Obj.cells #[.int .i64 2, .string L, .string p] 24) = w8 at *
  generalize w7.heap.size = g3 at *
  have hS : (w8.cell? ⟨g1, 2, none⟩ = some (.string p) ∧ w8.cell? ⟨g2, 0, none⟩ = some (.int .i64 2) ∧ w8.cell? ⟨g2, 1, none⟩ = some (.string L) ∧ w8.cell? ⟨g2, 2, none⟩ = some (.string p) ∧ w8.cell? ⟨g3, 0, none⟩ = some (.int .i64 2) ∧ w8.cell? ⟨g3, 1, none⟩ = some (.string L) ∧ w8.cell? ⟨g3, 2, none⟩ = some (.string p)) := ⟨a1, a2, a3, a4, a5, a6, a7⟩
  have hSd : (w8.drew.cell? ⟨g1, 2, none⟩ = some (.string p) ∧ w8.drew.cell? ⟨g2, 0, none⟩ = some (.int .i64 2) ∧ w8.drew.cell? ⟨g2, 1, none⟩ = some (.string L) ∧ w8.drew.cell? ⟨g2, 2, none⟩ = some (.string p) ∧ w8.drew.cell? ⟨g3, 0, none⟩ = some (.int .i64 2) ∧ w8.drew.cell? ⟨g3, 1, none⟩ = some (.string L) ∧ w8.drew.cell? ⟨g3, 2, none⟩ = some (.string p)) := hS
  have hb9d : Below w.heap.size w w8.drew := hb9.drew
  have HKp : ∀ w' : World, Below w8.drew.heap.size w8.drew w' → (w'.cell? ⟨g1, 2, none⟩ = some (.string p) ∧ w'.cell? ⟨g2, 0, none⟩ = some (.int .i64 2) ∧ w'.cell? ⟨g2, 1, none⟩ = some (.string L) ∧ w'.cell? ⟨g2, 2, none⟩ = some (.string p) ∧ w'.cell? ⟨g3, 0, none⟩ = some (.int .i64 2) ∧ w'.cell? ⟨g3, 1, none⟩ = some (.string L) ∧ w'.cell? ⟨g3, 2, none⟩ = some (.string p)) := by
    intro w' hb'
    have k := fun (g o : Nat) (v : Value) (hg : g < w8.drew.heap.size) (hc : w8.cell? ⟨g, o, none⟩ = some v) => ((hb'.cell (p := ⟨g, o, none⟩) hg).trans hc : _ = some v)
    exact ⟨k _ _ _ hl1 a1, k _ _ _ hl2 a2, k _ _ _ hl2 a3, k _ _ _ hl2 a4, k _ _ _ hl3 a5, k _ _ _ hl3 a6, k _ _ _ hl3 a7⟩
  go_region_held3 (fun w' => w'.cell? ⟨g1, 2, none⟩ = some (.string p) ∧ w'.cell? ⟨g2, 0, none⟩ = some (.int .i64 2) ∧ w'.cell? ⟨g2, 1, none⟩ = some (.string L) ∧ w'.cell? ⟨g2, 2, none⟩ = some (.string p) ∧ w'.cell? ⟨g3, 0, none⟩ = some (.int .i64 2) ∧ w'.cell? ⟨g3, 1, none⟩ = some (.string L) ∧ w'.cell? ⟨g3, 2, none⟩ = some (.string p)) (first | go_keep | exact HKp _ (by assumption)) (first | (go_at_call 9; refine (HR.out _).mono ?_; rintro e w' ⟨rfl, hb'⟩))
  have hfin := hb9d.trans (hb'.mono hb9d.size)
  go_wp2_with fail
  go_ret
  exact ⟨rfl, hfin⟩

theorem targets_any (m p h : ByteArray) (w : World) :
    Calls Try.prog 3 #[.string m, .string p, .string h] w (Yes3 w) := by
  by_cases hm : m.size ≤ 20
  · by_cases hp : p.size ≤ 100
    · by_cases hh : h.size ≤ 100
      · have ht := fun W => target_any m p W (by omega) (by omega)
        unfold TgPost tgV at ht
        have hsh := tgt_shape (bs m) (bs p)
        rcases hsh with ⟨h1, h2⟩ | ⟨h1, h2, h47, hok, hcn⟩ | ⟨h1, h2⟩ | ⟨h1, h2⟩ | ⟨h1, h2⟩
        · refine targets_other m p h w hm hp hh 0 400 (mkS (tgt (bs m) (bs p)).2.1) (mkS (tgt (bs m) (bs p)).2.2) (fun W => ?_) (.inl ⟨rfl, rfl⟩)
          have := ht W
          unfold tgSt at this
          rw [h1] at this
          exact this
        · have hne : p.toList.isEmpty = false := by
            rw [toList_bs]
            cases hb : bs p with
            | nil => rw [hb] at h47; cases h47
            | cons c t => rfl
          have ht2 : ∀ W, Calls Try.prog 7 #[.string m, .string p] W fun e w' => e = .returned (.tuple #[.agg #[.int .i64 1, .string ⟨#[]⟩, .string p], .int .i64 0]) ∧ Below W.heap.size W w' := by
            intro W
            have := ht W
            unfold tgSt at this
            rw [h1, h2] at this
            simp only [mkS_bs] at this
            exact this
          cases hk : hostL (bs h)
          · exact targets_nohost m p h w hm hp hh hne ht2 hk
          · exact targets_host m p h w hm hp hh hne ht2 hk hcn h47 hok
        · have hne : (mkS (tgt (bs m) (bs p)).2.2).toList.isEmpty = false := by
            rw [toList_bs, bs_mkS]
            cases hb : (tgt (bs m) (bs p)).2.2 with
            | nil => exact absurd hb h2
            | cons c t => rfl
          refine targets_other m p h w hm hp hh 2 0 (mkS (tgt (bs m) (bs p)).2.1) (mkS (tgt (bs m) (bs p)).2.2) (fun W => ?_) (.inr (.inl ⟨rfl, rfl, hne⟩))
          have := ht W
          unfold tgSt at this
          rw [h1] at this
          exact this
        · have hne : (mkS (tgt (bs m) (bs p)).2.2).toList.isEmpty = true := by rw [toList_bs, bs_mkS, h2]; rfl
          refine targets_other m p h w hm hp hh 3 0 (mkS (tgt (bs m) (bs p)).2.1) (mkS (tgt (bs m) (bs p)).2.2) (fun W => ?_) (.inr (.inr (.inl ⟨rfl, rfl, hne⟩)))
          have := ht W
          unfold tgSt at this
          rw [h1] at this
          exact this
        · have hne : (mkS (tgt (bs m) (bs p)).2.2).toList.isEmpty = true := by rw [toList_bs, bs_mkS, h2]; rfl
          refine targets_other m p h w hm hp hh 4 0 (mkS (tgt (bs m) (bs p)).2.1) (mkS (tgt (bs m) (bs p)).2.2) (fun W => ?_) (.inr (.inr (.inr ⟨rfl, rfl, hne⟩)))
          have := ht W
          unfold tgSt at this
          rw [h1] at this
          exact this
      · exact targets_big m p h w (.inr (.inr ⟨hm, hp, hh⟩))
    · exact targets_big m p h w (.inr (.inl ⟨hm, hp⟩))
  · exact targets_big m p h w (.inl hm)
end Tk
end Go.Proofs.Ytliinjibnikfgaa
