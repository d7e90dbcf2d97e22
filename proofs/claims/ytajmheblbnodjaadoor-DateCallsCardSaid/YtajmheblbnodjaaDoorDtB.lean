/- date: Days, Civil, Seconds. -/
import Derived.Test.YtajmheblbnodjaaDoorDtA
namespace Go.Proofs.YtajmheblbnodjaaDoor
open Go.RowKit
namespace Tk

def dayV (y m d : Int) : Int := if okDay y m d = true then dayN y m d else 0
def dayE (y m d : Int) : Int := if okDay y m d = true then 0 else 2
theorem ret2 {a b c d : Int} {k1 k2 : IntKind} (h1 : a = b) (h2 : c = d) : Ending.returned (.tuple #[.int k1 a, .int k2 c]) = .returned (.tuple #[.int k1 b, .int k2 d]) := by rw [h1, h2]
theorem okDay_split (y m d : Int) : okDay y m d = ((decide (1970 ≤ y) && decide (y ≤ 9999)) && ((decide (1 ≤ m) && decide (m ≤ 12)) && (decide (1 ≤ d) && decide (d ≤ mD y m)))) := by
  unfold okDay; simp only [Bool.and_assoc]

set_option maxHeartbeats 2000000 in
theorem days_any (y m d : Int) (w : World) :
    Calls Tryd.prog 7 #[.int .i64 y, .int .i64 m, .int .i64 d] w fun e w' => e = .returned (.tuple #[.int .i64 (dayV y m d), .int .i64 (dayE y m d)]) ∧ w = w' := by
  have HW1 := within_any y 1970 9999 w
  have HW2 := within_any m 1 12 w
  have HW3 := within_any d 1 (mD y m) w
  have HO := okDay_split y m d
  obtain ⟨b1, hb1⟩ : ∃ b, b = (decide (1970 ≤ y) && decide (y ≤ 9999)) := ⟨_, rfl⟩
  obtain ⟨b2, hb2⟩ : ∃ b, b = (decide (1 ≤ m) && decide (m ≤ 12)) := ⟨_, rfl⟩
  obtain ⟨b3, hb3⟩ : ∃ b, b = (decide (1 ≤ d) && decide (d ≤ mD y m)) := ⟨_, rfl⟩
  rw [← hb1] at HW1 HO
  rw [← hb2] at HW2 HO
  rw [← hb3] at HW3 HO
  have H1 := Lib.hid HW1
  have H2 := Lib.hid HW2
  have H3 := Lib.hid HW3
  clear HW1 HW2 HW3
  cases b1
  · have HV := Lib.hid (show dayV y m d = 0 ∧ dayE y m d = 2 by unfold dayV dayE; rw [HO]; exact ⟨rfl, rfl⟩)
    clear HO hb1 hb2 hb3 H2 H3
    go_enter Tryd.func7, Tryd.ntmps7
    go_wp2_with fail
    refine H1.out.mono ?_
    rintro e w' ⟨rfl, rfl⟩
    go_wp2_with fail
    go_ret2
    exact ⟨ret2 HV.out.1.symm HV.out.2.symm, rfl⟩
  · have hy : 1970 ≤ y ∧ y ≤ 9999 := by simpa using hb1.symm
    cases b2
    · have HV := Lib.hid (show dayV y m d = 0 ∧ dayE y m d = 2 by unfold dayV dayE; rw [HO]; exact ⟨rfl, rfl⟩)
      clear HO hb1 hb2 hb3 H3
      go_enter Tryd.func7, Tryd.ntmps7
      go_wp2_with fail
      refine H1.out.mono ?_
      rintro e w' ⟨rfl, rfl⟩
      go_wp2_with fail
      refine H2.out.mono ?_
      rintro e w' ⟨rfl, rfl⟩
      go_wp2_with fail
      go_ret2
      exact ⟨ret2 HV.out.1.symm HV.out.2.symm, rfl⟩
    · have hm : 1 ≤ m ∧ m ≤ 12 := by simpa using hb2.symm
      have HM := Lib.hid (monthDays_any y m w (by omega))
      have hmd := mD_28 y m
      cases b3
      · have HV := Lib.hid (show dayV y m d = 0 ∧ dayE y m d = 2 by unfold dayV dayE; rw [HO]; exact ⟨rfl, rfl⟩)
        clear HO hb1 hb2 hb3
        generalize mD y m = D at *
        go_enter Tryd.func7, Tryd.ntmps7
        go_wp2_with fail
        refine H1.out.mono ?_
        rintro e w' ⟨rfl, rfl⟩
        go_wp2_with fail
        refine H2.out.mono ?_
        rintro e w' ⟨rfl, rfl⟩
        go_wp2_with fail
        refine HM.out.mono ?_
        rintro e w' ⟨rfl, rfl⟩
        go_wp2_with fail
        refine H3.out.mono ?_
        rintro e w' ⟨rfl, rfl⟩
        go_wp2_with fail
        go_ret2
        exact ⟨ret2 HV.out.1.symm HV.out.2.symm, rfl⟩
      · have hd : 1 ≤ d ∧ d ≤ mD y m := by simpa using hb3.symm
        have HS := Lib.hid (yearStart_any y w (by omega))
        have HV := Lib.hid (show dayV y m d = dayN y m d ∧ dayE y m d = 0 by unfold dayV dayE; rw [HO]; exact ⟨rfl, rfl⟩)
        have HMk := Lib.hid (fun k => monthDays_any y k w (by omega))
        have hS : 0 ≤ yS y ∧ yS y ≤ 4000000 := by unfold yS lpB; omega
        have HN := Lib.hid (fun k (h : k < 12) => mC_next y k h)
        have HE := Lib.hid (show dayN y m d = yS y + mC y (m - 1).toNat + (d - 1) from rfl)
        have HC0 : Hid (mC y 0 = 0) := rfl
        have HCk := Lib.hid (fun k (h : k ≤ 12) => show 0 ≤ mC y k ∧ mC y k ≤ 400 from by
          have a1 := mC_le y k 0 (by omega)
          have a2 := mC_le y (12 - k) k (by omega)
          rw [Nat.zero_add] at a1
          rw [show k + (12 - k) = 12 by omega, mC_12] at a2
          have a3 : mC y 0 = 0 := rfl
          have a4 := lpY_01 y
          omega)
        have HDk := Lib.hid (fun k => mD_28 y k)
        clear HO hb1 hb2 hb3
        go_enter Tryd.func7, Tryd.ntmps7
        go_wp2_with fail
        refine H1.out.mono ?_
        rintro e w' ⟨rfl, rfl⟩
        go_wp2_with fail
        refine H2.out.mono ?_
        rintro e w' ⟨rfl, rfl⟩
        go_wp2_with fail
        refine HM.out.mono ?_
        rintro e w' ⟨rfl, rfl⟩
        go_wp2_with fail
        refine H3.out.mono ?_
        rintro e w' ⟨rfl, rfl⟩
        go_wp2_with fail
        refine HS.out.mono ?_
        rintro e w' ⟨rfl, rfl⟩
        go_wp2_with fail
        go_loop [8, 9] (fun vd vm => ∃ k : Nat, k + 1 ≤ m.toNat ∧ vd = .int .i64 (yS y + mC y k + (d - 1)) ∧ vm = .int .i64 ((k : Int) + 1)) (fun _ vm => (m - RowKit.intOf vm).toNat)
        case atStart => exact ⟨0, by omega, by rw [HC0.out]; congr 1; omega, rfl⟩
        case round =>
          obtain ⟨k, hk, rfl, rfl⟩ := hrel
          have hck := HCk.out k (by omega)
          have hdk := HDk.out ((k : Int) + 1)
          have HK := Lib.hid (HMk.out ((k : Int) + 1))
          by_cases hlt : ((k : Int) + 1) < m
          · have hn := HN.out k (by omega)
            have HN2 := Lib.hid hn
            clear hn HE HV HMk HN HCk HDk H1 H2 H3 HM HS
            generalize mD y ((k : Int) + 1) = D at *
            go_wp2_with fail
            refine HK.out.mono ?_
            rintro e w' ⟨rfl, rfl⟩
            go_wp2_with fail
            refine ⟨⟨k + 1, by omega, ?_, by go_num⟩, by simp only [RowKit.intOf]; omega⟩
            rw [HN2.out]; congr 1; omega
          · have e : (m - 1).toNat = k := by omega
            rw [e] at HE
            clear HN HMk HCk HDk H1 H2 H3 HM HS
            go_wp2_with fail
            go_ret2
            exact ⟨ret2 (by rw [HV.out.1, HE.out]) HV.out.2.symm, rfl⟩
/-- a civil time in memory -/
def cvV (c : Cv) : Value := .agg #[.int .i64 c.y, .int .i64 c.m, .int .i64 c.d, .int .i64 c.h, .int .i64 c.n, .int .i64 c.s, .int .i64 c.w]
def okT (t : Int) : Bool := decide (0 ≤ t) && decide (t ≤ 253402300799)
def civX (t : Int) : Cv := if okT t = true then civ t else ⟨0, 0, 0, 0, 0, 0, 0⟩
def civE (t : Int) : Int := if okT t = true then 0 else 2
def CivPost (t : Int) (w : World) (e : Ending) (w' : World) : Prop := e = .returned (.tuple #[cvV (civX t), .int .i64 (civE t)]) ∧ Below w.heap.size w w'
theorem okT_iff (t : Int) : okT t = true ↔ (0 ≤ t ∧ t ≤ maxT) := by unfold okT maxT; simp
theorem civX_ok {t : Int} (h : okT t = true) : civX t = civ t ∧ civE t = 0 := by unfold civX civE; rw [if_pos h, if_pos h]; exact ⟨rfl, rfl⟩
theorem civX_bad {t : Int} (h : okT t = false) : civX t = ⟨0, 0, 0, 0, 0, 0, 0⟩ ∧ civE t = 2 := by unfold civX civE; rw [h]; exact ⟨rfl, rfl⟩
theorem civ_ret {y m d h n s w : Int} {c : Cv} {e E : Int} (hc : c = ⟨y, m, d, h, n, s, w⟩) (he : E = e) : Ending.returned (.tuple #[.agg #[.int .i64 y, .int .i64 m, .int .i64 d, .int .i64 h, .int .i64 n, .int .i64 s, .int .i64 w], .int .i64 e]) = .returned (.tuple #[cvV c, .int .i64 E]) := by
  subst hc he; rfl
theorem results_cv {P : Program} {fn : Func} {p q : Tmp} {ty : TypeId} (h : fn.results = #[.cell p ty, .tmp q]) (tmps : Array Value) (w : World) (g : Nat) (t : TypeId) (cs : Array Value) (fr : Nat × Nat) (d : TypeDesc) (v2 : Value)
    (hp : tmps.getD p undef = .pointer (some ⟨g, 0, none⟩)) (hg : w.heap[g]? = some (.cells cs t fr))
    (hu : P.underlying ty = some d) (hd : (match d with | .struct _ | .array _ _ => true | _ => false) = true) (hi : (P.info? ty).map (·.size) = some cs.size) (hq : tmps.getD q undef = v2) :
    (results fn tmps).run P w = .ok (.tuple #[.agg cs, v2]) w := by
  subst hq
  have hp' : tmps[p]?.getD undef = .pointer (some ⟨g, 0, none⟩) := by simpa using hp
  simp [results, h, hp', asAddr, run_loadVar_row w g t ty cs fr d hg hu hd hi]

set_option maxHeartbeats 2000000 in
set_option maxRecDepth 100000 in
theorem civil_any (t : Int) (w : World) (ht : -9223372036854775808 ≤ t ∧ t ≤ 9223372036854775807) :
    Calls Tryd.prog 9 #[.int .i64 t] w (CivPost t w) := by
  have hT : okT t = (decide (0 ≤ t) && decide (t ≤ 253402300799)) := rfl
  unfold CivPost
  by_cases h0 : t < 0
  · have HX := Lib.hid (civX_bad (t := t) (by rw [hT, decide_eq_false (by omega)]; rfl))
    have e1 : decide (t < 0) = true := decide_eq_true h0
    clear hT
    go_enter Tryd.func9, Tryd.ntmps9
    go_wp2_with fail
    refine bodyPost_ret (v := .tuple #[.agg #[.int .i64 0, .int .i64 0, .int .i64 0, .int .i64 0, .int .i64 0, .int .i64 0, .int .i64 0], .int .i64 2]) ?_ rfl ⟨?_, (Below.refl _ _).alloc (Nat.le_refl _) _⟩
    · exact results_cv (g := w.heap.size) (t := 23) rfl _ _ _ (0, 0) _ _ rfl (heap_alloc_last w _) Tryd.underlying23 rfl (by kernel_rfl) rfl
    · exact civ_ret HX.out.1 HX.out.2
  have e1 : decide (t < 0) = false := decide_eq_false h0
  by_cases h1 : 253402300799 < t
  · have HX := Lib.hid (civX_bad (t := t) (by rw [hT, decide_eq_false (p := t ≤ 253402300799) (by omega)]; simp))
    have e2 : decide (253402300799 < t) = true := decide_eq_true h1
    clear hT
    go_enter Tryd.func9, Tryd.ntmps9
    go_wp2_with fail
    refine bodyPost_ret (v := .tuple #[.agg #[.int .i64 0, .int .i64 0, .int .i64 0, .int .i64 0, .int .i64 0, .int .i64 0, .int .i64 0], .int .i64 2]) ?_ rfl ⟨?_, (Below.refl _ _).alloc (Nat.le_refl _) _⟩
    · exact results_cv (g := w.heap.size) (t := 23) rfl _ _ _ (0, 0) _ _ rfl (heap_alloc_last w _) Tryd.underlying23 rfl (by kernel_rfl) rfl
    · exact civ_ret HX.out.1 HX.out.2
  have e2 : decide (253402300799 < t) = false := decide_eq_false h1
  have hD : 0 ≤ t / 86400 ∧ t / 86400 < 2932897 := by omega
  have hR : 0 ≤ t % 86400 ∧ t % 86400 < 86400 := by omega
  have hr := yOf_range _ hD.1 hD.2
  obtain ⟨s1, s2⟩ := yOf_spec _ hD.1
  have hx : okT t = true := (okT_iff t).2 ⟨by omega, by unfold maxT; omega⟩
  have HX := Lib.hid (civX_ok hx)
  have HY := fun W => yearOf_any (t / 86400) W hD
  have HC := Lib.hid (fun m : Nat => show mOf (yOf (t / 86400)) (t / 86400 - yS (yOf (t / 86400))) = m → civ t = ⟨yOf (t / 86400), m, t / 86400 - yS (yOf (t / 86400)) - mC (yOf (t / 86400)) (m - 1) + 1, t % 86400 / 3600, t % 86400 % 3600 / 60, t % 86400 % 60, (t / 86400 + 4) % 7⟩ from fun h => by unfold civ; rw [h])
  rw [yS_next] at s2
  generalize yOf (t / 86400) = y at *
  have HS := Lib.hid (fun W => yearStart_any y W (by omega))
  have HMk := Lib.hid (fun k W => monthDays_any y k W (by omega))
  have HWd := Lib.hid (fun W => weekday_any (t / 86400) W (by omega))
  have HY2 := Lib.hid HY
  have hlp := lpY_01 y
  have HN := Lib.hid (fun k (h : k < 12) => mC_next y k h)
  have HDk := Lib.hid (fun k => mD_28 y k)
  have HCk := Lib.hid (fun k (h : k ≤ 12) => show 0 ≤ mC y k ∧ mC y k ≤ 400 from by
    have a1 := mC_le y k 0 (by omega)
    have a2 := mC_le y (12 - k) k (by omega)
    rw [Nat.zero_add] at a1
    rw [show k + (12 - k) = 12 by omega, mC_12] at a2
    have a3 : mC y 0 = 0 := rfl
    omega)
  have HC0 : Hid (mC y 0 = 0) := rfl
  have HC12 : Hid (mC y 12 = 365 + lpY y) := rfl
  have HMi := Lib.hid (fun (r : Int) (a : Nat) (a0 : 1 ≤ a) (a1 : a ≤ 12) (a2 : mC y (a - 1) ≤ r) (a3 : r < mC y a) => mOf_is y r a0 a1 a2 a3)
  have hys : 0 ≤ yS y ∧ yS y ≤ 4000000 := by unfold yS lpB; omega
  clear hT HY
  generalize yS y = S at *
  generalize lpY y = L at *
  obtain ⟨n, hn⟩ : ∃ n, n = t / 86400 := ⟨_, rfl⟩
  obtain ⟨r, hrr⟩ : ∃ r, r = t % 86400 := ⟨_, rfl⟩
  rw [← hn] at HY2 HWd HC hD s1 s2
  rw [← hrr] at HC hR
  go_enter Tryd.func9, Tryd.ntmps9
  go_wp2_with fail
  rw [← hn, ← hrr]
  clear hn hrr hx
  refine (HY2.out _).mono ?_
  rintro e w' ⟨rfl, rfl⟩
  go_wp2_with fail
  refine (HS.out _).mono ?_
  rintro e w' ⟨rfl, rfl⟩
  go_wp2_with fail
  go_loop [8, 7] (fun vd vm => ∃ k : Nat, k ≤ 11 ∧ mC y k ≤ n - S ∧ vd = .int .i64 (n - S - mC y k) ∧ vm = .int .i64 ((k : Int) + 1)) (fun _ vm => (12 - RowKit.intOf vm).toNat)
  case atStart => exact ⟨0, by omega, by rw [HC0.out]; omega, by rw [HC0.out, Int.sub_zero], rfl⟩
  case round =>
    obtain ⟨k, hk, hk2, rfl, rfl⟩ := hrel
    have hck := HCk.out k (by omega)
    have hdk := HDk.out ((k : Int) + 1)
    have HK := Lib.hid (HMk.out ((k : Int) + 1))
    have hnx := HN.out k (by omega)
    by_cases hlt : mD y ((k : Int) + 1) ≤ n - S - mC y k
    · have hk10 : k ≤ 10 := Nat.le_of_not_lt fun h => by
        obtain rfl : k = 11 := by omega
        have h12 := HC12.out
        have hn2 : mC y 12 = mC y 11 + mD y (((11 : Nat) : Int) + 1) := hnx
        omega
      have HN2 := Lib.hid hnx
      clear hnx HMi HC HMk HN HCk HDk HS HY2 HWd HC0 HC12 HX
      generalize mD y ((k : Int) + 1) = D at *
      go_wp2_with fail
      refine (HK.out _).mono ?_
      rintro e w' ⟨rfl, rfl⟩
      go_wp2_with fail
      refine (HK.out _).mono ?_
      rintro e w' ⟨rfl, rfl⟩
      go_wp2_with fail
      refine ⟨⟨k + 1, by omega, by rw [HN2.out]; omega, ?_, by go_num⟩, by simp only [RowKit.intOf]; omega⟩
      rw [HN2.out]; congr 1; omega
    · have hM := HMi.out (n - S) (k + 1) (by omega) (by omega) (by rw [Nat.add_sub_cancel]; exact hk2) (by omega)
      have HE := Lib.hid (HC.out _ hM)
      clear hnx HMi HC HMk HN HCk HDk HS HY2 hM
      generalize mD y ((k : Int) + 1) = D at *
      go_wp2_with fail
      refine (HK.out _).mono ?_
      rintro e w' ⟨rfl, rfl⟩
      go_wp2_with fail
      refine (HWd.out _).mono ?_
      rintro e w' ⟨rfl, rfl⟩
      go_wp2_with fail
      refine bodyPost_ret (v := .tuple #[.agg #[.int .i64 y, .int .i64 ((k : Int) + 1), .int .i64 (n - S - mC y k + 1), .int .i64 (r / 3600), .int .i64 (r % 3600 / 60), .int .i64 (r % 60), .int .i64 ((n + 4) % 7)], .int .i64 0]) ?_ rfl ⟨?_, (Below.refl _ _).alloc (Nat.le_refl _) _⟩
      · exact results_cv (g := w.heap.size) (t := 23) rfl _ _ _ (0, 0) _ _ rfl (heap_alloc_last w _) Tryd.underlying23 rfl (by kernel_rfl) rfl
      · refine civ_ret ?_ HX.out.2
        rw [HX.out.1, HE.out, Nat.add_sub_cancel]
        rfl
end Tk
end Go.Proofs.YtajmheblbnodjaaDoor
