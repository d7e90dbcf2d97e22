/- DtB DtC DtD, put together. -/
import Derived.Test.YthooghgiokgdhaaGreatDoorQK
import Derived.Lib.AppendIntMem
import Derived.Lib.ItoaMem
import Derived.Lib.LaidTab
import Derived.ProofKit
import Derived.Deep.RegionHeld3
namespace Go.Proofs.YthooghgiokgdhaaGreatDoor
open Go.RowKit
namespace Tk

def dayV (y m d : Int) : Int := if okDay y m d = true then dayN y m d else 0
def dayE (y m d : Int) : Int := if okDay y m d = true then 0 else 2
theorem ret2 {a b c d : Int} {k1 k2 : IntKind} (h1 : a = b) (h2 : c = d) : Ending.returned (.tuple #[.int k1 a, .int k2 c]) = .returned (.tuple #[.int k1 b, .int k2 d]) := by rw [h1, h2]
theorem okDay_split (y m d : Int) : okDay y m d = ((decide (1970 ≤ y) && decide (y ≤ 9999)) && ((decide (1 ≤ m) && decide (m ≤ 12)) && (decide (1 ≤ d) && decide (d ≤ mD y m)))) := by
  unfold okDay; simp only [Bool.and_assoc]

set_option maxHeartbeats 2000000 in
theorem days_any (y m d : Int) (w : World) :
    Calls Tryz.prog 304 #[.int .i64 y, .int .i64 m, .int .i64 d] w fun e w' => e = .returned (.tuple #[.int .i64 (dayV y m d), .int .i64 (dayE y m d)]) ∧ w = w' := by
  have HW1 := within_any y 1970 9999 w
  have HW2 := within_any m 1 12 w
  have HW3 := within_any d 1 (mD y m) w
  have HO := okDay_split y m d
  obtain ⟨b1, hb1⟩ : ∃ b, b = (decide (1970 ≤ y) && decide (y ≤ 9999)) := ⟨_, rfl⟩
  obtain ⟨b2, hb2⟩ : ∃ b, b = (decide (1 ≤ m) && decide (m ≤ 12)) := ⟨_, rfl⟩
  obtain ⟨b3, hb3⟩ : ∃ b, b = (decide (1 ≤ d) && decide (d ≤ mD y m)) := ⟨_, rfl⟩
  rw [← hb1] at HW1 HO
  rw [← hb2] at HW2 HO
  rw [← hb3] at HW3 HO
  have H1 := Lib.hid HW1
  have H2 := Lib.hid HW2
  have H3 := Lib.hid HW3
  clear HW1 HW2 HW3
  cases b1
  · have HV := Lib.hid (show dayV y m d = 0 ∧ dayE y m d = 2 by unfold dayV dayE; rw [HO]; exact ⟨rfl, rfl⟩)
    clear HO hb1 hb2 hb3 H2 H3
    go_enter Tryz.func304, Tryz.ntmps304
    go_wp2_with fail
    refine H1.out.mono ?_
    rintro e w' ⟨rfl, rfl⟩
    go_wp2_with fail
    go_ret2
    exact ⟨ret2 HV.out.1.symm HV.out.2.symm, rfl⟩
  · have hy : 1970 ≤ y ∧ y ≤ 9999 := by simpa using hb1.symm
    cases b2
    · have HV := Lib.hid (show dayV y m d = 0 ∧ dayE y m d = 2 by unfold dayV dayE; rw [HO]; exact ⟨rfl, rfl⟩)
      clear HO hb1 hb2 hb3 H3
      go_enter Tryz.func304, Tryz.ntmps304
      go_wp2_with fail
      refine H1.out.mono ?_
      rintro e w' ⟨rfl, rfl⟩
      go_wp2_with fail
      refine H2.out.mono ?_
      rintro e w' ⟨rfl, rfl⟩
      go_wp2_with fail
      go_ret2
      exact ⟨ret2 HV.out.1.symm HV.out.2.symm, rfl⟩
    · have hm : 1 ≤ m ∧ m ≤ 12 := by simpa using hb2.symm
      have HM := Lib.hid (monthDays_any y m w (by omega))
      have hmd := mD_28 y m
      cases b3
      · have HV := Lib.hid (show dayV y m d = 0 ∧ dayE y m d = 2 by unfold dayV dayE; rw [HO]; exact ⟨rfl, rfl⟩)
        clear HO hb1 hb2 hb3
        generalize mD y m = D at *
        go_enter Tryz.func304, Tryz.ntmps304
        go_wp2_with fail
        refine H1.out.mono ?_
        rintro e w' ⟨rfl, rfl⟩
        go_wp2_with fail
        refine H2.out.mono ?_
        rintro e w' ⟨rfl, rfl⟩
        go_wp2_with fail
        refine HM.out.mono ?_
        rintro e w' ⟨rfl, rfl⟩
        go_wp2_with fail
        refine H3.out.mono ?_
        rintro e w' ⟨rfl, rfl⟩
        go_wp2_with fail
        go_ret2
        exact ⟨ret2 HV.out.1.symm HV.out.2.symm, rfl⟩
      · have hd : 1 ≤ d ∧ d ≤ mD y m := by simpa using hb3.symm
        have HS := Lib.hid (yearStart_any y w (by omega))
        have HV := Lib.hid (show dayV y m d = dayN y m d ∧ dayE y m d = 0 by unfold dayV dayE; rw [HO]; exact ⟨rfl, rfl⟩)
        have HMk := Lib.hid (fun k => monthDays_any y k w (by omega))
        have hS : 0 ≤ yS y ∧ yS y ≤ 4000000 := by unfold yS lpB; omega
        have HN := Lib.hid (fun k (h : k < 12) => mC_next y k h)
        have HE := Lib.hid (show dayN y m d = yS y + mC y (m - 1).toNat + (d - 1) from rfl)
        have HC0 : Hid (mC y 0 = 0) := rfl
        have HCk := Lib.hid (fun k (h : k ≤ 12) => show 0 ≤ mC y k ∧ mC y k ≤ 400 from by
          have a1 := mC_le y k 0 (by omega)
          have a2 := mC_le y (12 - k) k (by omega)
          rw [Nat.zero_add] at a1
          rw [show k + (12 - k) = 12 by omega, mC_12] at a2
          have a3 : mC y 0 = 0 := rfl
          have a4 := lpY_01 y
          omega)
        have HDk := Lib.hid (fun k => mD_28 y k)
        clear HO hb1 hb2 hb3
        go_enter Tryz.func304, Tryz.ntmps304
        go_wp2_with fail
        refine H1.out.mono ?_
        rintro e w' ⟨rfl, rfl⟩
        go_wp2_with fail
        refine H2.out.mono ?_
        rintro e w' ⟨rfl, rfl⟩
        go_wp2_with fail
        refine HM.out.mono ?_
        rintro e w' ⟨rfl, rfl⟩
        go_wp2_with fail
        refine H3.out.mono ?_
        rintro e w' ⟨rfl, rfl⟩
        go_wp2_with fail
        refine HS.out.mono ?_
        rintro e w' ⟨rfl, rfl⟩
        go_wp2_with fail
        go_loop [8, 9] (fun vd vm => ∃ k : Nat, k + 1 ≤ m.toNat ∧ vd = .int .i64 (yS y + mC y k + (d - 1)) ∧ vm = .int .i64 ((k : Int) + 1)) (fun _ vm => (m - RowKit.intOf vm).toNat)
        case atStart => exact ⟨0, by omega, by rw [HC0.out]; congr 1; omega, rfl⟩
        case round =>
          obtain ⟨k, hk, rfl, rfl⟩ := hrel
          have hck := HCk.out k (by omega)
          have hdk := HDk.out ((k : Int) + 1)
          have HK := Lib.hid (HMk.out ((k : Int) + 1))
          by_cases hlt : ((k : Int) + 1) < m
          · have hn := HN.out k (by omega)
            have HN2 := Lib.hid hn
            clear hn HE HV HMk HN HCk HDk H1 H2 H3 HM HS
            generalize mD y ((k : Int) + 1) = D at *
            go_wp2_with fail
            refine HK.out.mono ?_
            rintro e w' ⟨rfl, rfl⟩
            go_wp2_with fail
            refine ⟨⟨k + 1, by omega, ?_, by go_num⟩, by simp only [RowKit.intOf]; omega⟩
            rw [HN2.out]; congr 1; omega
          · have e : (m - 1).toNat = k := by omega
            rw [e] at HE
            clear HN HMk HCk HDk H1 H2 H3 HM HS
            go_wp2_with fail
            go_ret2
            exact ⟨ret2 (by rw [HV.out.1, HE.out]) HV.out.2.symm, rfl⟩
/-- a civil time in memory -/
def cvV (c : Cv) : Value := .agg #[.int .i64 c.y, .int .i64 c.m, .int .i64 c.d, .int .i64 c.h, .int .i64 c.n, .int .i64 c.s, .int .i64 c.w]
def okT (t : Int) : Bool := decide (0 ≤ t) && decide (t ≤ 253402300799)
def civX (t : Int) : Cv := if okT t = true then civ t else ⟨0, 0, 0, 0, 0, 0, 0⟩
def civE (t : Int) : Int := if okT t = true then 0 else 2
def CivPost (t : Int) (w : World) (e : Ending) (w' : World) : Prop := e = .returned (.tuple #[cvV (civX t), .int .i64 (civE t)]) ∧ Below w.heap.size w w'
theorem okT_iff (t : Int) : okT t = true ↔ (0 ≤ t ∧ t ≤ maxT) := by unfold okT maxT; simp
theorem civX_ok {t : Int} (h : okT t = true) : civX t = civ t ∧ civE t = 0 := by unfold civX civE; rw [if_pos h, if_pos h]; exact ⟨rfl, rfl⟩
theorem civX_bad {t : Int} (h : okT t = false) : civX t = ⟨0, 0, 0, 0, 0, 0, 0⟩ ∧ civE t = 2 := by unfold civX civE; rw [h]; exact ⟨rfl, rfl⟩
theorem civ_ret {y m d h n s w : Int} {c : Cv} {e E : Int} (hc : c = ⟨y, m, d, h, n, s, w⟩) (he : E = e) : Ending.returned (.tuple #[.agg #[.int .i64 y, .int .i64 m, .int .i64 d, .int .i64 h, .int .i64 n, .int .i64 s, .int .i64 w], .int .i64 e]) = .returned (.tuple #[cvV c, .int .i64 E]) := by
  subst hc he; rfl
theorem results_cv {P : Program} {fn : Func} {p q : Tmp} {ty : TypeId} (h : fn.results = #[.cell p ty, .tmp q]) (tmps : Array Value) (w : World) (g : Nat) (t : TypeId) (cs : Array Value) (fr : Nat × Nat) (d : TypeDesc) (v2 : Value)
    (hp : tmps.getD p undef = .pointer (some ⟨g, 0, none⟩)) (hg : w.heap[g]? = some (.cells cs t fr))
    (hu : P.underlying ty = some d) (hd : (match d with | .struct _ | .array _ _ => true | _ => false) = true) (hi : (P.info? ty).map (·.size) = some cs.size) (hq : tmps.getD q undef = v2) :
    (results fn tmps).run P w = .ok (.tuple #[.agg cs, v2]) w := by
  subst hq
  have hp' : tmps[p]?.getD undef = .pointer (some ⟨g, 0, none⟩) := by simpa using hp
  simp [results, h, hp', asAddr, run_loadVar_row w g t ty cs fr d hg hu hd hi]

set_option maxHeartbeats 2000000 in
set_option maxRecDepth 100000 in
theorem civil_any (t : Int) (w : World) (ht : -9223372036854775808 ≤ t ∧ t ≤ 9223372036854775807) :
    Calls Tryz.prog 178 #[.int .i64 t] w (CivPost t w) := by
  have hT : okT t = (decide (0 ≤ t) && decide (t ≤ 253402300799)) := rfl
  unfold CivPost
  by_cases h0 : t < 0
  · have HX := Lib.hid (civX_bad (t := t) (by rw [hT, decide_eq_false (by omega)]; rfl))
    have e1 : decide (t < 0) = true := decide_eq_true h0
    clear hT
    go_enter Tryz.func178, Tryz.ntmps178
    go_wp2_with fail
    refine bodyPost_ret (v := .tuple #[.agg #[.int .i64 0, .int .i64 0, .int .i64 0, .int .i64 0, .int .i64 0, .int .i64 0, .int .i64 0], .int .i64 2]) ?_ rfl ⟨?_, (Below.refl _ _).alloc (Nat.le_refl _) _⟩
    · exact results_cv (g := w.heap.size) (t := 204) rfl _ _ _ (0, 0) _ _ rfl (heap_alloc_last w _) Tryz.underlying204 rfl (by kernel_rfl) rfl
    · exact civ_ret HX.out.1 HX.out.2
  have e1 : decide (t < 0) = false := decide_eq_false h0
  by_cases h1 : 253402300799 < t
  · have HX := Lib.hid (civX_bad (t := t) (by rw [hT, decide_eq_false (p := t ≤ 253402300799) (by omega)]; simp))
    have e2 : decide (253402300799 < t) = true := decide_eq_true h1
    clear hT
    go_enter Tryz.func178, Tryz.ntmps178
    go_wp2_with fail
    refine bodyPost_ret (v := .tuple #[.agg #[.int .i64 0, .int .i64 0, .int .i64 0, .int .i64 0, .int .i64 0, .int .i64 0, .int .i64 0], .int .i64 2]) ?_ rfl ⟨?_, (Below.refl _ _).alloc (Nat.le_refl _) _⟩
    · exact results_cv (g := w.heap.size) (t := 204) rfl _ _ _ (0, 0) _ _ rfl (heap_alloc_last w _) Tryz.underlying204 rfl (by kernel_rfl) rfl
    · exact civ_ret HX.out.1 HX.out.2
  have e2 : decide (253402300799 < t) = false := decide_eq_false h1
  have hD : 0 ≤ t / 86400 ∧ t / 86400 < 2932897 := by omega
  have hR : 0 ≤ t % 86400 ∧ t % 86400 < 86400 := by omega
  have hr := yOf_range _ hD.1 hD.2
  obtain ⟨s1, s2⟩ := yOf_spec _ hD.1
  have hx : okT t = true := (okT_iff t).2 ⟨by omega, by unfold maxT; omega⟩
  have HX := Lib.hid (civX_ok hx)
  have HY := fun W => yearOf_any (t / 86400) W hD
  have HC := Lib.hid (fun m : Nat => show mOf (yOf (t / 86400)) (t / 86400 - yS (yOf (t / 86400))) = m → civ t = ⟨yOf (t / 86400), m, t / 86400 - yS (yOf (t / 86400)) - mC (yOf (t / 86400)) (m - 1) + 1, t % 86400 / 3600, t % 86400 % 3600 / 60, t % 86400 % 60, (t / 86400 + 4) % 7⟩ from fun h => by unfold civ; rw [h])
  rw [yS_next] at s2
  generalize yOf (t / 86400) = y at *
  have HS := Lib.hid (fun W => yearStart_any y W (by omega))
  have HMk := Lib.hid (fun k W => monthDays_any y k W (by omega))
  have HWd := Lib.hid (fun W => weekday_any (t / 86400) W (by omega))
  have HY2 := Lib.hid HY
  have hlp := lpY_01 y
  have HN := Lib.hid (fun k (h : k < 12) => mC_next y k h)
  have HDk := Lib.hid (fun k => mD_28 y k)
  have HCk := Lib.hid (fun k (h : k ≤ 12) => show 0 ≤ mC y k ∧ mC y k ≤ 400 from by
    have a1 := mC_le y k 0 (by omega)
    have a2 := mC_le y (12 - k) k (by omega)
    rw [Nat.zero_add] at a1
    rw [show k + (12 - k) = 12 by omega, mC_12] at a2
    have a3 : mC y 0 = 0 := rfl
    omega)
  have HC0 : Hid (mC y 0 = 0) := rfl
  have HC12 : Hid (mC y 12 = 365 + lpY y) := rfl
  have HMi := Lib.hid (fun (r : Int) (a : Nat) (a0 : 1 ≤ a) (a1 : a ≤ 12) (a2 : mC y (a - 1) ≤ r) (a3 : r < mC y a) => mOf_is y r a0 a1 a2 a3)
  have hys : 0 ≤ yS y ∧ yS y ≤ 4000000 := by unfold yS lpB; omega
  clear hT HY
  generalize yS y = S at *
  generalize lpY y = L at *
  obtain ⟨n, hn⟩ : ∃ n, n = t / 86400 := ⟨_, rfl⟩
  obtain ⟨r, hrr⟩ : ∃ r, r = t % 86400 := ⟨_, rfl⟩
  rw [← hn] at HY2 HWd HC hD s1 s2
  rw [← hrr] at HC hR
  go_enter Tryz.func178, Tryz.ntmps178
  go_wp2_with fail
  rw [← hn, ← hrr]
  clear hn hrr hx
  refine (HY2.out _).mono ?_
  rintro e w' ⟨rfl, rfl⟩
  go_wp2_with fail
  refine (HS.out _).mono ?_
  rintro e w' ⟨rfl, rfl⟩
  go_wp2_with fail
  go_loop [8, 7] (fun vd vm => ∃ k : Nat, k ≤ 11 ∧ mC y k ≤ n - S ∧ vd = .int .i64 (n - S - mC y k) ∧ vm = .int .i64 ((k : Int) + 1)) (fun _ vm => (12 - RowKit.intOf vm).toNat)
  case atStart => exact ⟨0, by omega, by rw [HC0.out]; omega, by rw [HC0.out, Int.sub_zero], rfl⟩
  case round =>
    obtain ⟨k, hk, hk2, rfl, rfl⟩ := hrel
    have hck := HCk.out k (by omega)
    have hdk := HDk.out ((k : Int) + 1)
    have HK := Lib.hid (HMk.out ((k : Int) + 1))
    have hnx := HN.out k (by omega)
    by_cases hlt : mD y ((k : Int) + 1) ≤ n - S - mC y k
    · have hk10 : k ≤ 10 := Nat.le_of_not_lt fun h => by
        obtain rfl : k = 11 := by omega
        have h12 := HC12.out
        have hn2 : mC y 12 = mC y 11 + mD y (((11 : Nat) : Int) + 1) := hnx
        omega
      have HN2 := Lib.hid hnx
      clear hnx HMi HC HMk HN HCk HDk HS HY2 HWd HC0 HC12 HX
      generalize mD y ((k : Int) + 1) = D at *
      go_wp2_with fail
      refine (HK.out _).mono ?_
      rintro e w' ⟨rfl, rfl⟩
      go_wp2_with fail
      refine (HK.out _).mono ?_
      rintro e w' ⟨rfl, rfl⟩
      go_wp2_with fail
      refine ⟨⟨k + 1, by omega, by rw [HN2.out]; omega, ?_, by go_num⟩, by simp only [RowKit.intOf]; omega⟩
      rw [HN2.out]; congr 1; omega
    · have hM := HMi.out (n - S) (k + 1) (by omega) (by omega) (by rw [Nat.add_sub_cancel]; exact hk2) (by omega)
      have HE := Lib.hid (HC.out _ hM)
      clear hnx HMi HC HMk HN HCk HDk HS HY2 hM
      generalize mD y ((k : Int) + 1) = D at *
      go_wp2_with fail
      refine (HK.out _).mono ?_
      rintro e w' ⟨rfl, rfl⟩
      go_wp2_with fail
      refine (HWd.out _).mono ?_
      rintro e w' ⟨rfl, rfl⟩
      go_wp2_with fail
      refine bodyPost_ret (v := .tuple #[.agg #[.int .i64 y, .int .i64 ((k : Int) + 1), .int .i64 (n - S - mC y k + 1), .int .i64 (r / 3600), .int .i64 (r % 3600 / 60), .int .i64 (r % 60), .int .i64 ((n + 4) % 7)], .int .i64 0]) ?_ rfl ⟨?_, (Below.refl _ _).alloc (Nat.le_refl _) _⟩
      · exact results_cv (g := w.heap.size) (t := 204) rfl _ _ _ (0, 0) _ _ rfl (heap_alloc_last w _) Tryz.underlying204 rfl (by kernel_rfl) rfl
      · refine civ_ret ?_ HX.out.2
        rw [HX.out.1, HE.out, Nat.add_sub_cancel]
        rfl
end Tk
end Go.Proofs.YthooghgiokgdhaaGreatDoor
namespace Go.Proofs.YthooghgiokgdhaaGreatDoor
open Go.RowKit Go.ChangeShapes Go.WideShapes
namespace Tk

/-- what the library's and the package's tables hold -/
structure NamH (w : World) : Prop where
  big : 2 < w.heap.size ∧ 0 < w.heap.size ∧ 1 < w.heap.size ∧ 3 < w.heap.size
  tab : Lib.TabIs Tryz.prog w "internal/strconv.uint64pow10" .u64 Lib.pow10Tab
  day : ∃ t fr, w.heap[0]? = some (.cells ((dN.map fun l => Value.string (mkS l)).toArray) t fr)
  mon : ∃ t fr, w.heap[1]? = some (.cells ((mN.map fun l => Value.string (mkS l)).toArray) t fr)
  mxl : ∃ m, w.cell? ⟨3, 0, none⟩ = some (.int .i64 m)
theorem gTenD : Tryz.prog.globalNamed "internal/strconv.uint64pow10" = some 2 := by kernel_rfl
theorem NamH.later {w w' : World} (h : NamH w) (hb : Below w.heap.size w w') : NamH w' := by
  obtain ⟨⟨b1, b2, b3, b4⟩, ht, ⟨t1, f1, hd⟩, ⟨t2, f2, hm⟩, m, hx⟩ := h
  have hs := hb.size
  refine ⟨⟨by omega, by omega, by omega, by omega⟩, var?_below hb gTenD b1 ht, ⟨t1, f1, ?_⟩, ⟨t2, f2, ?_⟩, m, ?_⟩
  · rw [hb.block _ b2]; exact hd
  · rw [hb.block _ b3]; exact hm
  · rw [hb.cell (by exact b4)]; exact hx
theorem NamH.dayC {w : World} (h : NamH w) (k : Nat) (hk : k < 7) : w.cell? ⟨0, k, none⟩ = some (.string (mkS (dN.getD k []))) := by
  obtain ⟨t, fr, e⟩ := h.day
  rw [Lib.cell_of_heap e]
  have : k = 0 ∨ k = 1 ∨ k = 2 ∨ k = 3 ∨ k = 4 ∨ k = 5 ∨ k = 6 := by omega
  rcases this with rfl | rfl | rfl | rfl | rfl | rfl | rfl <;> rfl
theorem NamH.monC {w : World} (h : NamH w) (k : Nat) (hk : k < 12) : w.cell? ⟨1, k, none⟩ = some (.string (mkS (mN.getD k []))) := by
  obtain ⟨t, fr, e⟩ := h.mon
  rw [Lib.cell_of_heap e]
  have : k = 0 ∨ k = 1 ∨ k = 2 ∨ k = 3 ∨ k = 4 ∨ k = 5 ∨ k = 6 ∨ k = 7 ∨ k = 8 ∨ k = 9 ∨ k = 10 ∨ k = 11 := by omega
  rcases this with rfl | rfl | rfl | rfl | rfl | rfl | rfl | rfl | rfl | rfl | rfl | rfl <;> rfl

theorem decD : ∀ (k u : Nat), u ≤ k → Lib.decDigits u = digL u
  | 0, u, h => by
    obtain rfl : u = 0 := by omega
    rw [Lib.decDigits_one (by omega), digL_small 0 (by omega)]
  | k + 1, u, h => by
    by_cases hu : u < 10
    · rw [Lib.decDigits_one hu, digL_small u hu]
    · rw [Lib.decDigits, dif_neg hu, digL, dif_neg hu, decD k (u / 10) (by omega)]
theorem itoaD_any (n : Nat) (w : World) (hT : NamH w) (h1 : n ≤ 9223372036854775807) :
    Calls Tryz.prog 87 #[.int .i64 (n : Int)] w fun e w' => e = .returned (.string (mkS (digL n))) ∧ Below w.heap.size w w' :=
  (Tryz.strconv_Itoa (n : Int) (by omega) (by omega) w hT.tab).mono fun e w' ⟨h1, _, _, h2⟩ => ⟨by
    rw [h1, Lib.itoa_nonneg, decD n n (Nat.le_refl _)]; rfl, h2 ▸ Lib.below_grow _ _ (Nat.le_refl _) _ _⟩
theorem digL_two (n : Nat) (h : 10 ≤ n) (h1 : n ≤ 99) : digL n = two n := by
  rw [digL_big n (by omega), digL_small (n / 10) (by omega), digL_small (n % 10) (by omega)]
  unfold two d1
  rw [show ((n : Int) / 10).toNat = n / 10 by omega, show ((n : Int) % 10).toNat = n % 10 by omega]; rfl
theorem digL_hund (n : Nat) (h1 : n ≤ 99) : digL (100 + n) = 49 :: two n := by
  rw [digL_big _ (by omega), digL_big ((100 + n) / 10) (by omega), digL_small ((100 + n) / 10 / 10) (by omega), digL_small ((100 + n) / 10 % 10) (by omega), digL_small ((100 + n) % 10) (by omega)]
  unfold two d1
  rw [show (100 + n) / 10 / 10 = 1 by omega, show (100 + n) / 10 % 10 = ((n : Int) / 10).toNat by omega, show (100 + n) % 10 = ((n : Int) % 10).toNat by omega]; rfl
theorem digL_yr4 (n : Nat) (h : 1000 ≤ n) (h1 : n ≤ 9999) : digL n = yr4 n := by
  rw [digL_big n (by omega), digL_big (n / 10) (by omega), digL_big (n / 10 / 10) (by omega), digL_small (n / 10 / 10 / 10) (by omega), digL_small (n / 10 / 10 % 10) (by omega), digL_small (n / 10 % 10) (by omega), digL_small (n % 10) (by omega)]
  unfold yr4 two d1
  rw [show n / 10 / 10 / 10 = ((n : Int) / 100 / 10).toNat by omega, show n / 10 / 10 % 10 = ((n : Int) / 100 % 10).toNat by omega, show n / 10 % 10 = ((n : Int) % 100 / 10).toNat by omega, show n % 10 = ((n : Int) % 100 % 10).toNat by omega]; rfl
theorem retS {a b : ByteArray} (h : a = b) : Ending.returned (.string a) = .returned (.string b) := by rw [h]

set_option maxHeartbeats 1000000 in
theorem two_any (n : Int) (w : World) (hT : NamH w) (hn : 0 ≤ n ∧ n ≤ 99) :
    Calls Tryz.prog 228 #[.int .i64 n] w fun e w' => e = .returned (.string (mkS (two n))) ∧ Below w.heap.size w w' := by
  have h := itoaD_any (100 + n.toNat) w hT (by omega)
  rw [digL_hund _ (by omega), show (((100 + n.toNat : Nat)) : Int) = 100 + n by omega, show ((n.toNat : Nat) : Int) = n by omega] at h
  have HI := Lib.hid h
  have hsz : (mkS (49 :: two n)).size = 3 := by rw [size_mkS]; rfl
  have HV := Lib.hid (show (mkS (49 :: two n)).extract 1 3 = mkS (two n) by rw [extract_mkS]; rfl)
  clear h hT
  generalize mkS (49 :: two n) = A at *
  go_enter Tryz.func228, Tryz.ntmps228
  go_wp2_with fail
  refine HI.out.mono ?_
  rintro e w1 ⟨rfl, hb⟩
  have HB := Lib.hid hb
  clear hb
  go_wp2_with fail
  go_ret
  exact ⟨retS HV.out, HB.out⟩

theorem number1_any (s : ByteArray) (w : World) (hs : s.size ≤ 1099511627776) :
    Calls Tryz.prog 267 #[.string s] w fun e w' => e = .returned (.int .i64 (numP (bs s))) ∧ w = w' := by
  have HN := Lib.hid (number_any s w hs)
  have HV := Lib.hid (show ((numL (bs s)).1 : Int) = numP (bs s) from rfl)
  generalize numL (bs s) = N at *
  obtain ⟨a, b⟩ := N
  go_enter Tryz.func267, Tryz.ntmps267
  go_wp2_with fail
  refine HN.out.mono ?_
  rintro e w' ⟨rfl, rfl⟩
  go_wp2_with fail
  go_ret
  exact ⟨retId HV.out, rfl⟩

theorem fullYear_any (n now : Int) (w : World) (hn : 0 ≤ n ∧ n ≤ 1000000) (hw : 0 ≤ now ∧ now ≤ 1000000) :
    Calls Tryz.prog 269 #[.int .i64 n, .int .i64 now] w fun e w' => e = .returned (.int .i64 (lateY n now)) ∧ w = w' := by
  have h1 := hn
  have h2 := hw
  cases e1 : decide (now + 50 < now - now % 100 + n)
  · have HV := Lib.hid (show (if now + 50 < now - now % 100 + n then now - now % 100 + n - 100 else now - now % 100 + n) = now - now % 100 + n from if_neg (of_decide_eq_false e1))
    cases e2 : decide (now - now % 100 + n < 1970)
    · have HW := Lib.hid (show lateY n now = now - now % 100 + n by unfold lateY; rw [HV.out, if_neg (of_decide_eq_false e2)])
      clear HV
      go_enter Tryz.func269, Tryz.ntmps269
      go_wp2_with fail
      go_ret
      exact ⟨retId HW.out.symm, rfl⟩
    · have HW := Lib.hid (show lateY n now = now - now % 100 + n + 100 by unfold lateY; rw [HV.out, if_pos (of_decide_eq_true e2)])
      clear HV
      go_enter Tryz.func269, Tryz.ntmps269
      go_wp2_with fail
      go_ret
      exact ⟨retId HW.out.symm, rfl⟩
  · have HV := Lib.hid (show (if now + 50 < now - now % 100 + n then now - now % 100 + n - 100 else now - now % 100 + n) = now - now % 100 + n - 100 from if_pos (of_decide_eq_true e1))
    cases e2 : decide (now - now % 100 + n - 100 < 1970)
    · have HW := Lib.hid (show lateY n now = now - now % 100 + n - 100 by unfold lateY; rw [HV.out, if_neg (of_decide_eq_false e2)])
      clear HV
      go_enter Tryz.func269, Tryz.ntmps269
      go_wp2_with fail
      go_ret
      exact ⟨retId HW.out.symm, rfl⟩
    · have HW := Lib.hid (show lateY n now = now - now % 100 + n - 100 + 100 by unfold lateY; rw [HV.out, if_pos (of_decide_eq_true e2)])
      clear HV
      go_enter Tryz.func269, Tryz.ntmps269
      go_wp2_with fail
      go_ret
      exact ⟨retId (by rw [HW.out]; omega), rfl⟩
end Tk
end Go.Proofs.YthooghgiokgdhaaGreatDoor
namespace Go.Proofs.YthooghgiokgdhaaGreatDoor
open Go.RowKit
namespace Tk

theorem monGo_yes (r : List Bs) (k : Int) (a l : Bs) (h : a = l) : monGo (a :: r) k l = k := by rw [monGo, if_pos h]
theorem monGo_no (r : List Bs) (k : Int) (a l : Bs) (h : ¬ a = l) : monGo (a :: r) k l = monGo r (k + 1) l := by rw [monGo, if_neg h]
theorem mN_drop (k : Nat) (h : k < 12) : mN.drop k = mN.getD k [] :: mN.drop (k + 1) := by
  have : k = 0 ∨ k = 1 ∨ k = 2 ∨ k = 3 ∨ k = 4 ∨ k = 5 ∨ k = 6 ∨ k = 7 ∨ k = 8 ∨ k = 9 ∨ k = 10 ∨ k = 11 := by omega
  rcases this with rfl | rfl | rfl | rfl | rfl | rfl | rfl | rfl | rfl | rfl | rfl | rfl <;> rfl
theorem mN_at (k : Nat) (h : k < 12) : ((mN.map fun l => Value.string (mkS l)).toArray)[k]? = some (.string (mkS (mN.getD k []))) := by
  have : k = 0 ∨ k = 1 ∨ k = 2 ∨ k = 3 ∨ k = 4 ∨ k = 5 ∨ k = 6 ∨ k = 7 ∨ k = 8 ∨ k = 9 ∨ k = 10 ∨ k = 11 := by omega
  rcases this with rfl | rfl | rfl | rfl | rfl | rfl | rfl | rfl | rfl | rfl | rfl | rfl <;> rfl

theorem idx_0 (m0 m1 m2 m3 m4 m5 m6 m7 m8 m9 m10 m11 : ByteArray) (w : World) : (Instr.index 248 (.agg #[.string m0, .string m1, .string m2, .string m3, .string m4, .string m5, .string m6, .string m7, .string m8, .string m9, .string m10, .string m11]) (.int .i64 0)).run Tryz.prog w = .ok (.string m0) w := by simp [Instr.index, run_underlying Tryz.underlying248, asIntOf, go_sem]
theorem idx_1 (m0 m1 m2 m3 m4 m5 m6 m7 m8 m9 m10 m11 : ByteArray) (w : World) : (Instr.index 248 (.agg #[.string m0, .string m1, .string m2, .string m3, .string m4, .string m5, .string m6, .string m7, .string m8, .string m9, .string m10, .string m11]) (.int .i64 1)).run Tryz.prog w = .ok (.string m1) w := by simp [Instr.index, run_underlying Tryz.underlying248, asIntOf, go_sem]
theorem idx_2 (m0 m1 m2 m3 m4 m5 m6 m7 m8 m9 m10 m11 : ByteArray) (w : World) : (Instr.index 248 (.agg #[.string m0, .string m1, .string m2, .string m3, .string m4, .string m5, .string m6, .string m7, .string m8, .string m9, .string m10, .string m11]) (.int .i64 2)).run Tryz.prog w = .ok (.string m2) w := by simp [Instr.index, run_underlying Tryz.underlying248, asIntOf, go_sem]
theorem idx_3 (m0 m1 m2 m3 m4 m5 m6 m7 m8 m9 m10 m11 : ByteArray) (w : World) : (Instr.index 248 (.agg #[.string m0, .string m1, .string m2, .string m3, .string m4, .string m5, .string m6, .string m7, .string m8, .string m9, .string m10, .string m11]) (.int .i64 3)).run Tryz.prog w = .ok (.string m3) w := by simp [Instr.index, run_underlying Tryz.underlying248, asIntOf, go_sem]
theorem idx_4 (m0 m1 m2 m3 m4 m5 m6 m7 m8 m9 m10 m11 : ByteArray) (w : World) : (Instr.index 248 (.agg #[.string m0, .string m1, .string m2, .string m3, .string m4, .string m5, .string m6, .string m7, .string m8, .string m9, .string m10, .string m11]) (.int .i64 4)).run Tryz.prog w = .ok (.string m4) w := by simp [Instr.index, run_underlying Tryz.underlying248, asIntOf, go_sem]
theorem idx_5 (m0 m1 m2 m3 m4 m5 m6 m7 m8 m9 m10 m11 : ByteArray) (w : World) : (Instr.index 248 (.agg #[.string m0, .string m1, .string m2, .string m3, .string m4, .string m5, .string m6, .string m7, .string m8, .string m9, .string m10, .string m11]) (.int .i64 5)).run Tryz.prog w = .ok (.string m5) w := by simp [Instr.index, run_underlying Tryz.underlying248, asIntOf, go_sem]
theorem idx_6 (m0 m1 m2 m3 m4 m5 m6 m7 m8 m9 m10 m11 : ByteArray) (w : World) : (Instr.index 248 (.agg #[.string m0, .string m1, .string m2, .string m3, .string m4, .string m5, .string m6, .string m7, .string m8, .string m9, .string m10, .string m11]) (.int .i64 6)).run Tryz.prog w = .ok (.string m6) w := by simp [Instr.index, run_underlying Tryz.underlying248, asIntOf, go_sem]
theorem idx_7 (m0 m1 m2 m3 m4 m5 m6 m7 m8 m9 m10 m11 : ByteArray) (w : World) : (Instr.index 248 (.agg #[.string m0, .string m1, .string m2, .string m3, .string m4, .string m5, .string m6, .string m7, .string m8, .string m9, .string m10, .string m11]) (.int .i64 7)).run Tryz.prog w = .ok (.string m7) w := by simp [Instr.index, run_underlying Tryz.underlying248, asIntOf, go_sem]
theorem idx_8 (m0 m1 m2 m3 m4 m5 m6 m7 m8 m9 m10 m11 : ByteArray) (w : World) : (Instr.index 248 (.agg #[.string m0, .string m1, .string m2, .string m3, .string m4, .string m5, .string m6, .string m7, .string m8, .string m9, .string m10, .string m11]) (.int .i64 8)).run Tryz.prog w = .ok (.string m8) w := by simp [Instr.index, run_underlying Tryz.underlying248, asIntOf, go_sem]
theorem idx_9 (m0 m1 m2 m3 m4 m5 m6 m7 m8 m9 m10 m11 : ByteArray) (w : World) : (Instr.index 248 (.agg #[.string m0, .string m1, .string m2, .string m3, .string m4, .string m5, .string m6, .string m7, .string m8, .string m9, .string m10, .string m11]) (.int .i64 9)).run Tryz.prog w = .ok (.string m9) w := by simp [Instr.index, run_underlying Tryz.underlying248, asIntOf, go_sem]
theorem idx_10 (m0 m1 m2 m3 m4 m5 m6 m7 m8 m9 m10 m11 : ByteArray) (w : World) : (Instr.index 248 (.agg #[.string m0, .string m1, .string m2, .string m3, .string m4, .string m5, .string m6, .string m7, .string m8, .string m9, .string m10, .string m11]) (.int .i64 10)).run Tryz.prog w = .ok (.string m10) w := by simp [Instr.index, run_underlying Tryz.underlying248, asIntOf, go_sem]
theorem idx_11 (m0 m1 m2 m3 m4 m5 m6 m7 m8 m9 m10 m11 : ByteArray) (w : World) : (Instr.index 248 (.agg #[.string m0, .string m1, .string m2, .string m3, .string m4, .string m5, .string m6, .string m7, .string m8, .string m9, .string m10, .string m11]) (.int .i64 11)).run Tryz.prog w = .ok (.string m11) w := by simp [Instr.index, run_underlying Tryz.underlying248, asIntOf, go_sem]

set_option maxHeartbeats 8000000 in
set_option maxRecDepth 100000 in
theorem monthNumber_any (s : ByteArray) (w : World) (hT : NamH w) :
    Calls Tryz.prog 305 #[.string s] w fun e w' => e = .returned (.int .i64 (monNo (bs s))) ∧ w = w' := by
  have hc := hT.monC
  have q0 := hc 0 (by decide)
  have q1 := hc 1 (by decide)
  have q2 := hc 2 (by decide)
  have q3 := hc 3 (by decide)
  have q4 := hc 4 (by decide)
  have q5 := hc 5 (by decide)
  have q6 := hc 6 (by decide)
  have q7 := hc 7 (by decide)
  have q8 := hc 8 (by decide)
  have q9 := hc 9 (by decide)
  have q10 := hc 10 (by decide)
  have q11 := hc 11 (by decide)
  have HG := Lib.hid (show monNo (bs s) = monGo (mN.drop 0) (((0 : Nat) : Int) + 1) (bs s) from rfl)
  have HEnd := Lib.hid (show ∀ k, monGo (mN.drop 12) k (bs s) = 0 from fun _ => rfl)
  have HY := Lib.hid (fun (k : Nat) (h : k < 12) (he : mkS (mN.getD k []) = s) => show monGo (mN.drop k) ((k : Int) + 1) (bs s) = (k : Int) + 1 by
    rw [mN_drop k h, monGo_yes _ _ _ _ (by rw [← he, bs_mkS])])
  have HN := Lib.hid (fun (k : Nat) (h : k < 12) (he : ¬ mkS (mN.getD k []) = s) => show monGo (mN.drop k) ((k : Int) + 1) (bs s) = monGo (mN.drop (k + 1)) (((k + 1 : Nat) : Int) + 1) (bs s) by
    rw [mN_drop k h, monGo_no _ _ _ _ (fun e => he (by rw [e, mkS_bs]))]; congr 1)
  have HY0 := Lib.hid (HY.out 0 (by decide))
  have HN0 := Lib.hid (HN.out 0 (by decide))
  have HY1 := Lib.hid (HY.out 1 (by decide))
  have HN1 := Lib.hid (HN.out 1 (by decide))
  have HY2 := Lib.hid (HY.out 2 (by decide))
  have HN2 := Lib.hid (HN.out 2 (by decide))
  have HY3 := Lib.hid (HY.out 3 (by decide))
  have HN3 := Lib.hid (HN.out 3 (by decide))
  have HY4 := Lib.hid (HY.out 4 (by decide))
  have HN4 := Lib.hid (HN.out 4 (by decide))
  have HY5 := Lib.hid (HY.out 5 (by decide))
  have HN5 := Lib.hid (HN.out 5 (by decide))
  have HY6 := Lib.hid (HY.out 6 (by decide))
  have HN6 := Lib.hid (HN.out 6 (by decide))
  have HY7 := Lib.hid (HY.out 7 (by decide))
  have HN7 := Lib.hid (HN.out 7 (by decide))
  have HY8 := Lib.hid (HY.out 8 (by decide))
  have HN8 := Lib.hid (HN.out 8 (by decide))
  have HY9 := Lib.hid (HY.out 9 (by decide))
  have HN9 := Lib.hid (HN.out 9 (by decide))
  have HY10 := Lib.hid (HY.out 10 (by decide))
  have HN10 := Lib.hid (HN.out 10 (by decide))
  have HY11 := Lib.hid (HY.out 11 (by decide))
  have HN11 := Lib.hid (HN.out 11 (by decide))
  clear hc hT HY HN
  generalize mkS (mN.getD 0 []) = m0 at *
  generalize mkS (mN.getD 1 []) = m1 at *
  generalize mkS (mN.getD 2 []) = m2 at *
  generalize mkS (mN.getD 3 []) = m3 at *
  generalize mkS (mN.getD 4 []) = m4 at *
  generalize mkS (mN.getD 5 []) = m5 at *
  generalize mkS (mN.getD 6 []) = m6 at *
  generalize mkS (mN.getD 7 []) = m7 at *
  generalize mkS (mN.getD 8 []) = m8 at *
  generalize mkS (mN.getD 9 []) = m9 at *
  generalize mkS (mN.getD 10 []) = m10 at *
  generalize mkS (mN.getD 11 []) = m11 at *
  go_enter Tryz.func305, Tryz.ntmps305
  go_wp2_with fail
  go_loop [3, 4, 6] (fun _ _ vk => ∃ k : Nat, k ≤ 12 ∧ vk = .int .i64 (k : Int) ∧ Hid (monNo (bs s) = monGo (mN.drop k) ((k : Int) + 1) (bs s))) (fun _ _ vk => (12 - RowKit.intOf vk).toNat)
  case atStart => exact ⟨0, by omega, rfl, HG.out⟩
  case round =>
    obtain ⟨k, hk, rfl, HI⟩ := hrel
    have hks : k = 0 ∨ k = 1 ∨ k = 2 ∨ k = 3 ∨ k = 4 ∨ k = 5 ∨ k = 6 ∨ k = 7 ∨ k = 8 ∨ k = 9 ∨ k = 10 ∨ k = 11 ∨ k = 12 := by omega
    rcases hks with rfl | rfl | rfl | rfl | rfl | rfl | rfl | rfl | rfl | rfl | rfl | rfl | rfl
    · have i1 := idx_0 m0 m1 m2 m3 m4 m5 m6 m7 m8 m9 m10 m11 w
      by_cases he : m0 = s
      · have e1 : (m0.toList == s.toList) = true := by rw [he]; exact beq_self_eq_true _
        have HF := Lib.hid (HI.out.trans (HY0.out he))
        clear HG HI HEnd he
        go_wp2_with fail
        go_ret
        exact ⟨retId (by rw [HF.out]; rfl), rfl⟩
      · have e1 : (m0.toList == s.toList) = false := beq_eq_false_iff_ne.2 fun e => he (by rw [← mkS_bs m0, ← mkS_bs s, ← toList_bs, ← toList_bs, e])
        have HF := Lib.hid (HI.out.trans (HN0.out he))
        clear HG HI HEnd he
        go_wp2_with fail
        exact ⟨⟨1, by omega, by go_num, HF⟩, by simp only [RowKit.intOf]; omega⟩
    · have i1 := idx_1 m0 m1 m2 m3 m4 m5 m6 m7 m8 m9 m10 m11 w
      by_cases he : m1 = s
      · have e1 : (m1.toList == s.toList) = true := by rw [he]; exact beq_self_eq_true _
        have HF := Lib.hid (HI.out.trans (HY1.out he))
        clear HG HI HEnd he
        go_wp2_with fail
        go_ret
        exact ⟨retId (by rw [HF.out]; rfl), rfl⟩
      · have e1 : (m1.toList == s.toList) = false := beq_eq_false_iff_ne.2 fun e => he (by rw [← mkS_bs m1, ← mkS_bs s, ← toList_bs, ← toList_bs, e])
        have HF := Lib.hid (HI.out.trans (HN1.out he))
        clear HG HI HEnd he
        go_wp2_with fail
        exact ⟨⟨2, by omega, by go_num, HF⟩, by simp only [RowKit.intOf]; omega⟩
    · have i1 := idx_2 m0 m1 m2 m3 m4 m5 m6 m7 m8 m9 m10 m11 w
      by_cases he : m2 = s
      · have e1 : (m2.toList == s.toList) = true := by rw [he]; exact beq_self_eq_true _
        have HF := Lib.hid (HI.out.trans (HY2.out he))
        clear HG HI HEnd he
        go_wp2_with fail
        go_ret
        exact ⟨retId (by rw [HF.out]; rfl), rfl⟩
      · have e1 : (m2.toList == s.toList) = false := beq_eq_false_iff_ne.2 fun e => he (by rw [← mkS_bs m2, ← mkS_bs s, ← toList_bs, ← toList_bs, e])
        have HF := Lib.hid (HI.out.trans (HN2.out he))
        clear HG HI HEnd he
        go_wp2_with fail
        exact ⟨⟨3, by omega, by go_num, HF⟩, by simp only [RowKit.intOf]; omega⟩
    · have i1 := idx_3 m0 m1 m2 m3 m4 m5 m6 m7 m8 m9 m10 m11 w
      by_cases he : m3 = s
      · have e1 : (m3.toList == s.toList) = true := by rw [he]; exact beq_self_eq_true _
        have HF := Lib.hid (HI.out.trans (HY3.out he))
        clear HG HI HEnd he
        go_wp2_with fail
        go_ret
        exact ⟨retId (by rw [HF.out]; rfl), rfl⟩
      · have e1 : (m3.toList == s.toList) = false := beq_eq_false_iff_ne.2 fun e => he (by rw [← mkS_bs m3, ← mkS_bs s, ← toList_bs, ← toList_bs, e])
        have HF := Lib.hid (HI.out.trans (HN3.out he))
        clear HG HI HEnd he
        go_wp2_with fail
        exact ⟨⟨4, by omega, by go_num, HF⟩, by simp only [RowKit.intOf]; omega⟩
    · have i1 := idx_4 m0 m1 m2 m3 m4 m5 m6 m7 m8 m9 m10 m11 w
      by_cases he : m4 = s
      · have e1 : (m4.toList == s.toList) = true := by rw [he]; exact beq_self_eq_true _
        have HF := Lib.hid (HI.out.trans (HY4.out he))
        clear HG HI HEnd he
        go_wp2_with fail
        go_ret
        exact ⟨retId (by rw [HF.out]; rfl), rfl⟩
      · have e1 : (m4.toList == s.toList) = false := beq_eq_false_iff_ne.2 fun e => he (by rw [← mkS_bs m4, ← mkS_bs s, ← toList_bs, ← toList_bs, e])
        have HF := Lib.hid (HI.out.trans (HN4.out he))
        clear HG HI HEnd he
        go_wp2_with fail
        exact ⟨⟨5, by omega, by go_num, HF⟩, by simp only [RowKit.intOf]; omega⟩
    · have i1 := idx_5 m0 m1 m2 m3 m4 m5 m6 m7 m8 m9 m10 m11 w
      by_cases he : m5 = s
      · have e1 : (m5.toList == s.toList) = true := by rw [he]; exact beq_self_eq_true _
        have HF := Lib.hid (HI.out.trans (HY5.out he))
        clear HG HI HEnd he
        go_wp2_with fail
        go_ret
        exact ⟨retId (by rw [HF.out]; rfl), rfl⟩
      · have e1 : (m5.toList == s.toList) = false := beq_eq_false_iff_ne.2 fun e => he (by rw [← mkS_bs m5, ← mkS_bs s, ← toList_bs, ← toList_bs, e])
        have HF := Lib.hid (HI.out.trans (HN5.out he))
        clear HG HI HEnd he
        go_wp2_with fail
        exact ⟨⟨6, by omega, by go_num, HF⟩, by simp only [RowKit.intOf]; omega⟩
    · have i1 := idx_6 m0 m1 m2 m3 m4 m5 m6 m7 m8 m9 m10 m11 w
      by_cases he : m6 = s
      · have e1 : (m6.toList == s.toList) = true := by rw [he]; exact beq_self_eq_true _
        have HF := Lib.hid (HI.out.trans (HY6.out he))
        clear HG HI HEnd he
        go_wp2_with fail
        go_ret
        exact ⟨retId (by rw [HF.out]; rfl), rfl⟩
      · have e1 : (m6.toList == s.toList) = false := beq_eq_false_iff_ne.2 fun e => he (by rw [← mkS_bs m6, ← mkS_bs s, ← toList_bs, ← toList_bs, e])
        have HF := Lib.hid (HI.out.trans (HN6.out he))
        clear HG HI HEnd he
        go_wp2_with fail
        exact ⟨⟨7, by omega, by go_num, HF⟩, by simp only [RowKit.intOf]; omega⟩
    · have i1 := idx_7 m0 m1 m2 m3 m4 m5 m6 m7 m8 m9 m10 m11 w
      by_cases he : m7 = s
      · have e1 : (m7.toList == s.toList) = true := by rw [he]; exact beq_self_eq_true _
        have HF := Lib.hid (HI.out.trans (HY7.out he))
        clear HG HI HEnd he
        go_wp2_with fail
        go_ret
        exact ⟨retId (by rw [HF.out]; rfl), rfl⟩
      · have e1 : (m7.toList == s.toList) = false := beq_eq_false_iff_ne.2 fun e => he (by rw [← mkS_bs m7, ← mkS_bs s, ← toList_bs, ← toList_bs, e])
        have HF := Lib.hid (HI.out.trans (HN7.out he))
        clear HG HI HEnd he
        go_wp2_with fail
        exact ⟨⟨8, by omega, by go_num, HF⟩, by simp only [RowKit.intOf]; omega⟩
    · have i1 := idx_8 m0 m1 m2 m3 m4 m5 m6 m7 m8 m9 m10 m11 w
      by_cases he : m8 = s
      · have e1 : (m8.toList == s.toList) = true := by rw [he]; exact beq_self_eq_true _
        have HF := Lib.hid (HI.out.trans (HY8.out he))
        clear HG HI HEnd he
        go_wp2_with fail
        go_ret
        exact ⟨retId (by rw [HF.out]; rfl), rfl⟩
      · have e1 : (m8.toList == s.toList) = false := beq_eq_false_iff_ne.2 fun e => he (by rw [← mkS_bs m8, ← mkS_bs s, ← toList_bs, ← toList_bs, e])
        have HF := Lib.hid (HI.out.trans (HN8.out he))
        clear HG HI HEnd he
        go_wp2_with fail
        exact ⟨⟨9, by omega, by go_num, HF⟩, by simp only [RowKit.intOf]; omega⟩
    · have i1 := idx_9 m0 m1 m2 m3 m4 m5 m6 m7 m8 m9 m10 m11 w
      by_cases he : m9 = s
      · have e1 : (m9.toList == s.toList) = true := by rw [he]; exact beq_self_eq_true _
        have HF := Lib.hid (HI.out.trans (HY9.out he))
        clear HG HI HEnd he
        go_wp2_with fail
        go_ret
        exact ⟨retId (by rw [HF.out]; rfl), rfl⟩
      · have e1 : (m9.toList == s.toList) = false := beq_eq_false_iff_ne.2 fun e => he (by rw [← mkS_bs m9, ← mkS_bs s, ← toList_bs, ← toList_bs, e])
        have HF := Lib.hid (HI.out.trans (HN9.out he))
        clear HG HI HEnd he
        go_wp2_with fail
        exact ⟨⟨10, by omega, by go_num, HF⟩, by simp only [RowKit.intOf]; omega⟩
    · have i1 := idx_10 m0 m1 m2 m3 m4 m5 m6 m7 m8 m9 m10 m11 w
      by_cases he : m10 = s
      · have e1 : (m10.toList == s.toList) = true := by rw [he]; exact beq_self_eq_true _
        have HF := Lib.hid (HI.out.trans (HY10.out he))
        clear HG HI HEnd he
        go_wp2_with fail
        go_ret
        exact ⟨retId (by rw [HF.out]; rfl), rfl⟩
      · have e1 : (m10.toList == s.toList) = false := beq_eq_false_iff_ne.2 fun e => he (by rw [← mkS_bs m10, ← mkS_bs s, ← toList_bs, ← toList_bs, e])
        have HF := Lib.hid (HI.out.trans (HN10.out he))
        clear HG HI HEnd he
        go_wp2_with fail
        exact ⟨⟨11, by omega, by go_num, HF⟩, by simp only [RowKit.intOf]; omega⟩
    · have i1 := idx_11 m0 m1 m2 m3 m4 m5 m6 m7 m8 m9 m10 m11 w
      by_cases he : m11 = s
      · have e1 : (m11.toList == s.toList) = true := by rw [he]; exact beq_self_eq_true _
        have HF := Lib.hid (HI.out.trans (HY11.out he))
        clear HG HI HEnd he
        go_wp2_with fail
        go_ret
        exact ⟨retId (by rw [HF.out]; rfl), rfl⟩
      · have e1 : (m11.toList == s.toList) = false := beq_eq_false_iff_ne.2 fun e => he (by rw [← mkS_bs m11, ← mkS_bs s, ← toList_bs, ← toList_bs, e])
        have HF := Lib.hid (HI.out.trans (HN11.out he))
        clear HG HI HEnd he
        go_wp2_with fail
        exact ⟨⟨12, by omega, by go_num, HF⟩, by simp only [RowKit.intOf]; omega⟩
    · have HF := Lib.hid (HI.out.trans (HEnd.out _))
      go_wp2_with fail
      go_ret
      exact ⟨retId (by rw [HF.out]), rfl⟩
end Tk
end Go.Proofs.YthooghgiokgdhaaGreatDoor
