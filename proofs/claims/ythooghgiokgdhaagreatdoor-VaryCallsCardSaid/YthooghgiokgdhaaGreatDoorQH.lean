/- LgU VaL VaT VdP Sta0, put together. -/
import Derived.Test.YthooghgiokgdhaaGreatDoorQG
import Derived.Test.YthooghgiokgdhaaGreatDoorQF
import Derived.Test.YthooghgiokgdhaaGreatDoorQE
import Derived.Lib.LaidU8T
import Derived.Lib.LaidU8
import Derived.Test.YthooghgiokgdhaaGreatDoorQD
import Derived.Test.YthooghgiokgdhaaGreatDoorQA
namespace Go.Proofs.YthooghgiokgdhaaGreatDoor
open Go.RowKit
namespace Tk

def lightU (l : List (Bs × Bs)) : Bool := decide (l.length ≤ 20) && lfGo 600 0 l
theorem lightU_parts (l : List (Bs × Bs)) (h : lightU l = true) : l.length ≤ 20 ∧ sumF l ≤ 680 := by
  unfold lightU at h
  rw [Bool.and_eq_true, decide_eq_true_eq] at h
  have := lfGo_sum 600 l 0 (by omega) h.2
  exact ⟨h.1, by omega⟩

set_option maxHeartbeats 2000000 in
set_option maxRecDepth 100000 in
theorem lightTwenty_any (v : Value) (l : List (Bs × Bs)) (w : World) (hs : IsFlds w v l) (hz : ∀ f ∈ l, f.1.length ≤ 140737488351232 ∧ f.2.length ≤ 140737488351232) (hl : l.length ≤ 140737488351232) :
    Calls Tryz.prog 113 #[v, .int .i64 20, .int .i64 600] w fun e w' => e = .returned (.bool (lightU l)) ∧ ∃ n, w' = w.drewN n := by
  obtain ⟨a, c, rfl, hcap, hc⟩ := hs
  have HC := Lib.hid hc
  have HZ := Lib.hid hz
  clear hc hz
  by_cases h20 : 20 < l.length
  · have fin : lightU l = false := by unfold lightU; rw [decide_eq_false (by omega)]; rfl
    have HF := Lib.hid fin
    have h' : (20 : Int) < (l.length : Int) := by omega
    clear fin
    go_enter Tryz.func113, Tryz.ntmps113
    go_wp2_with fail
    go_ret
    exact ⟨by rw [HF.out]; rfl, 0, rfl⟩
  · have fin : lightU l = lfGo 600 0 l := by unfold lightU; rw [decide_eq_true (by omega)]; rfl
    have HF := Lib.hid fin
    have h' : ¬ (20 : Int) < (l.length : Int) := by omega
    clear fin
    go_enter Tryz.func113, Tryz.ntmps113
    go_wp2_with fail
    go_loopw [7, 8] (fun vn vi wr => ∃ (i n m : Nat), i ≤ l.length ∧ n ≤ 600 ∧ vi = .int .i64 i ∧ vn = .int .i64 n ∧ wr = w.drewN m ∧ Hid (lightU l = lfGo 600 n (l.drop i))) (fun _ vi _ => l.length - (RowKit.intOf vi).toNat)
    case atStart => exact ⟨0, 0, 0, by omega, by omega, rfl, rfl, rfl, HF.out⟩
    case round =>
      obtain ⟨i, n, m, hi, hn, rfl, rfl, rfl, hd⟩ := hrel
      by_cases hlt : i < l.length
      · obtain ⟨b, o, rfl, hc0, hc1⟩ := HC.out i (l.getD i ([], [])) (by simp [List.getD, hlt])
        obtain ⟨z0, z1⟩ := HZ.out (l.getD i ([], [])) (by simp [List.getD, hlt])
        have hdr : l.drop i = l.getD i ([], []) :: l.drop (i + 1) := by rw [List.drop_eq_getElem_cons hlt]; simp [List.getD, hlt]
        have HD := Lib.hid hdr
        clear hdr
        generalize l.getD i ([], []) = f at *
        obtain ⟨x, y⟩ := f
        simp only at z0 z1 hc0 hc1
        have s0 := size_mkS x
        have s1 := size_mkS y
        have HS0 := Lib.hid s0
        have HS1 := Lib.hid s1
        have y0 : (mkS x).size ≤ 140737488351232 := by omega
        have y1 : (mkS y).size ≤ 140737488351232 := by omega
        clear s0 s1 z0 z1
        have hb0 : (0 : Int) ≤ (i : Int) := by omega
        have hb1 : (i : Int) < (l.length : Int) := by omega
        by_cases hb : 600 < n + (mkS x).size + (mkS y).size
        · have fin : lightU l = false := by
            rw [hd.out, HD.out, lfGo, if_pos (by rw [← HS0.out, ← HS1.out]; exact hb)]
          have HF2 := Lib.hid fin
          have hb' : (600 : Int) < (n : Int) + ((mkS x).size : Int) + ((mkS y).size : Int) := by omega
          clear fin HF HD hd
          generalize mkS x = s at *
          generalize mkS y = t at *
          have w1 : IntKind.i64.wrap ((n : Int) + (s.size : Int)) = (n : Int) + (s.size : Int) := IntWalk.i64_in _ (by omega)
          have w2 : IntKind.i64.wrap ((n : Int) + (s.size : Int) + (t.size : Int)) = (n : Int) + (s.size : Int) + (t.size : Int) := IntWalk.i64_in _ (by omega)
          go_wp2_with fail
          go_quiet (fail)
          clear w1 w2
          go_wp2_with fail
          go_ret
          exact ⟨by rw [HF2.out]; rfl, _, rfl⟩
        · have nx : lightU l = lfGo 600 (n + (mkS x).size + (mkS y).size) (l.drop (i + 1)) := by
            rw [hd.out, HD.out, lfGo, if_neg (by rw [← HS0.out, ← HS1.out]; exact hb), HS0.out, HS1.out]
          have HN := Lib.hid nx
          have hb' : ¬ (600 : Int) < (n : Int) + ((mkS x).size : Int) + ((mkS y).size : Int) := by omega
          clear nx HF HD hd
          generalize mkS x = s at *
          generalize mkS y = t at *
          have w1 : IntKind.i64.wrap ((n : Int) + (s.size : Int)) = (n : Int) + (s.size : Int) := IntWalk.i64_in _ (by omega)
          have w2 : IntKind.i64.wrap ((n : Int) + (s.size : Int) + (t.size : Int)) = (n : Int) + (s.size : Int) + (t.size : Int) := IntWalk.i64_in _ (by omega)
          go_wp2_with fail
          go_quiet (fail)
          clear w1 w2
          go_wp2_with fail
          exact ⟨⟨i + 1, n + s.size + t.size, _, by omega, by omega, by go_num, by go_num, rfl, HN⟩, by simp [RowKit.intOf]; omega⟩
      · have fin : lightU l = true := by rw [hd.out, List.drop_eq_nil_of_le (by omega)]; rfl
        have HF2 := Lib.hid fin
        clear fin
        go_wp2_with fail
        go_ret
        exact ⟨by rw [HF2.out]; rfl, _, rfl⟩

end Tk
end Go.Proofs.YthooghgiokgdhaaGreatDoor
namespace Go.Proofs.YthooghgiokgdhaaGreatDoor
open Go.RowKit
namespace Tk

theorem isFlds_litV (w : World) (n x : Bs) : IsFlds (w.alloc (.cells #[.string (mkS n), .string (mkS x)] 31)) (.slice (some ⟨w.heap.size, 0, none⟩) 1 1) [(n, x)] := by
  refine ⟨_, 1, rfl, Nat.le_refl _, fun j f hj => ?_⟩
  cases j with
  | zero =>
    simp at hj; subst hj
    refine ⟨w.heap.size, 0, rfl, ?_, ?_⟩
    · rw [Lib.cell_of_heap (heap_alloc_last w _)]; rfl
    · rw [Lib.cell_of_heap (heap_alloc_last w _)]; rfl
  | succ j => simp at hj
theorem below_allocV (w : World) (o : Obj) : Below w.heap.size w (w.alloc o) := (Below.refl _ _).alloc (Nat.le_refl _) _

set_option maxHeartbeats 1000000 in
theorem vone_any (n x : ByteArray) (w : World) :
    Calls Tryz.prog 112 #[.string n, .string x] w fun e w' => e = .returned (.agg #[.string n, .string x]) ∧ Below w.heap.size w w' := by
  have hT := Two.new w 31 (.string ⟨#[]⟩) (.string ⟨#[]⟩)
  have c0 := hT.c0
  have c1 := hT.c1
  have f0 := hT.f0
  have f1 := hT.f1
  have hT2 := Two.new w 31 (.string n) (.string x)
  have q0 := hT2.c0
  have q1 := hT2.c1
  clear hT hT2
  go_enter Tryz.func112, Tryz.ntmps112
  go_wp2_with fail
  refine bodyPost_ret (v := .agg #[.string n, .string x]) ?_ rfl ⟨rfl, (Below.refl _ _).alloc (Nat.le_refl _) _⟩
  simp [results, Tryz.results112, go_sem, q0, q1]

set_option maxHeartbeats 1000000 in
theorem vlight_any (v : Value) (l : List (Bs × Bs)) (w : World) (hs : IsFlds w v l) (hz : ∀ f ∈ l, f.1.length ≤ 140737488351232 ∧ f.2.length ≤ 140737488351232) (hl : l.length ≤ 140737488351232) :
    Calls Tryz.prog 59 #[v] w fun e w' => e = .returned (.bool (lightU l)) ∧ ∃ n, w' = w.drewN n := by
  have HL := Lib.hid (lightTwenty_any v l w hs hz hl)
  obtain ⟨a, cap, rfl⟩ : ∃ a cap, v = .slice a l.length cap := by obtain ⟨a, c, h, -⟩ := hs; exact ⟨a, c, h⟩
  clear hs hz
  generalize lightU l = q at *
  go_enter Tryz.func59, Tryz.ntmps59
  go_wp2_with fail
  refine HL.out.mono ?_
  rintro e w1 ⟨rfl, n, rfl⟩
  go_wp2_with fail
  go_ret
  exact ⟨rfl, n, rfl⟩

theorem nms_of (P M : List Bs) (h : [42] ∉ P) (hM : M.Pairwise (· < ·)) (hm : ∀ x, x ∈ P.map lowL ↔ x ∈ M) : nmsV P = M := by
  unfold nmsV
  rw [if_neg h]
  exact set_unique _ _ (set_lt _) hM (fun x => by rw [set_memV]; exact hm x)
/-- the chapter's example -/
def exLv : List (Bs × Bs) := [([118, 97, 114, 121], [66, 44, 32, 97, 44, 32, 98])]
theorem exLv_list : listF exLv nVary = [[66], [97], [98]] := by decide
theorem exLv_nms : nmsV [[66], [97], [98]] = [[97], [98]] := by
  refine nms_of _ _ (by decide) (by decide) (fun x => ?_)
  have e : ([[66], [97], [98]] : List Bs).map lowL = [[98], [97], [98]] := by decide
  rw [e]
  simp only [List.mem_cons, List.mem_nil_iff, or_false]
  constructor
  · rintro (h | h | h)
    · exact .inr h
    · exact .inl h
    · exact .inr h
  · rintro (h | h)
    · exact .inr (.inl h)
    · exact .inl h

set_option maxHeartbeats 2000000 in
set_option maxRecDepth 100000 in
theorem lives12_any (w : World) : Calls Tryz.prog 58 #[] w fun e w' => e = .returned (.bool true) ∧ Below w.heap.size w w' := by
  have HO := Lib.hid (vone_any ⟨#[118, 97, 114, 121]⟩ ⟨#[66, 44, 32, 97, 44, 32, 98]⟩ w)
  have HN : Hid (∀ (v : Value) (W : World), IsFlds W v exLv → Calls Tryz.prog 60 #[v] W fun e w' => ∃ v', e = .returned (.tuple #[v', .bool false]) ∧ IsStrs w' v' [[97], [98]] ∧ Below W.heap.size W w') := fun v W hs => by
    have h := names_any v exLv W hs (by decide) (by decide)
    rw [exLv_list] at h
    refine h.mono ?_
    rintro e w' ⟨v', rfl, ho, hb⟩
    rw [exLv_nms] at ho
    exact ⟨v', rfl, isStrs_own ho, hb⟩
  have HSm : Hid (∀ (v1 v2 : Value) (W : World), IsStrs W v1 [[97], [98]] → IsStrs W v2 [[97], [98]] → Calls Tryz.prog 64 #[v1, v2] W fun e w' => e = .returned (.bool true) ∧ Below W.heap.size W w') := fun v1 v2 W h1 h2 => by
    have h := same_any v1 v2 _ _ W h1 h2 (by decide) (by decide)
    rw [show decide (([[97], [98]] : List Bs) = [[97], [98]]) = true by decide] at h
    refine h.mono ?_
    rintro e w' ⟨rfl, n, rfl⟩
    exact ⟨rfl, ⟨rfl, rfl, rfl, Nat.le_refl _, fun _ _ => rfl⟩⟩
  go_enter Tryz.func58, Tryz.ntmps58
  go_wp2_with fail
  refine HO.out.mono ?_
  rintro e w1 ⟨rfl, hb⟩
  have hfl : IsFlds (w1.alloc (.cells #[.string ⟨#[118, 97, 114, 121]⟩, .string ⟨#[66, 44, 32, 97, 44, 32, 98]⟩] 31)) (.slice (some ⟨w1.heap.size, 0, none⟩) 1 1) exLv := isFlds_litV w1 _ _
  have HF1 := Lib.hid hfl
  have hb1 := below_allocV w1 (.cells #[.string ⟨#[118, 97, 114, 121]⟩, .string ⟨#[66, 44, 32, 97, 44, 32, 98]⟩] 31)
  have HB1 := Lib.hid (hb.trans (hb1.mono hb.size))
  clear hb hfl hb1
  go_wp2_with fail
  refine (HN.out _ _ HF1.out).mono ?_
  rintro e w2 ⟨v2, rfl, hs2, hb⟩
  obtain ⟨a, c, rfl⟩ : ∃ a c, v2 = .slice a 2 c := by obtain ⟨a, c, h, -⟩ := hs2; exact ⟨a, c, h⟩
  have HB2 := Lib.hid (HB1.out.trans (hb.mono HB1.out.size))
  have hb3 := below_allocV w2 (.cells #[.string ⟨#[97]⟩, .string ⟨#[98]⟩] 9)
  have HS3 := Lib.hid (isStrsV_below hs2 hb3)
  have hl3 : IsStrs (w2.alloc (.cells #[.string ⟨#[97]⟩, .string ⟨#[98]⟩] 9)) (.slice (some ⟨w2.heap.size, 0, none⟩) 2 2) [[97], [98]] := isStrs_lit w2 [[97], [98]] _ _ 2 rfl
  have HL3 := Lib.hid hl3
  have HB3 := Lib.hid (HB2.out.trans (hb3.mono HB2.out.size))
  clear hb hs2 hb3 hl3
  go_wp2_with fail
  refine (HSm.out _ _ _ HS3.out HL3.out).mono ?_
  rintro e w4 ⟨rfl, hb⟩
  have HB4 := Lib.hid (HB3.out.trans (hb.mono HB3.out.size))
  clear hb
  go_wp2_with fail
  go_ret
  exact ⟨rfl, HB4.out⟩
end Tk
end Go.Proofs.YthooghgiokgdhaaGreatDoor
namespace Go.Proofs.YthooghgiokgdhaaGreatDoor
open Go.RowKit
namespace Tk

theorem u8xV : U8Extra Tryz.prog Tryz.lays260_ren where
  n3 := by kernel_rfl
  n4 := by kernel_rfl
  y3 := by kernel_rfl
  y4 := by kernel_rfl
  c5 := by kernel_rfl
  c119 := by kernel_rfl
  c138 := by kernel_rfl
theorem utf_of {l : List (String × DataW Unit)} {W : World} (h : laidMet Tryz.prog l W) (h1 : ("unicode/utf8.first", Lib.firstData) ∈ l) (h2 : ("unicode/utf8.acceptRanges", Lib.acceptData) ∈ l) : Utf W :=
  utf8Tabs_of_readsT (U8Types.of260 Tryz.lays260) u8xV (Lib.laidMet.reads h h1) (Lib.laidMet.reads h h2)
end Tk
end Go.Proofs.YthooghgiokgdhaaGreatDoor
namespace Go.Proofs.YthooghgiokgdhaaGreatDoor
namespace Tk

/-- was the byte before white space? -/
def lwV : Bool → Bs → Bool
  | p, [] => p
  | _, c :: t => lwV (whV c) t
def addV (p : Bool) (c : UInt8) : Bs := if whV c then (if p then [] else [32]) else [c]
theorem narG_snoc : ∀ (l : Bs) (p : Bool) (c : UInt8), narG p (l ++ [c]) = narG p l ++ addV (lwV p l) c
  | [], p, c => by
    rw [List.nil_append, lwV]
    unfold addV
    rw [narG, narG, narG, narG]
    cases whV c <;> cases p <;> rfl
  | d :: t, p, c => by
    rw [List.cons_append, narG, narG, lwV]
    cases hd : whV d
    · rw [if_neg (by decide), if_neg (by decide), narG_snoc t false c]; rfl
    · rw [if_pos rfl, if_pos rfl, narG_snoc t true c]
      cases p <;> rfl
theorem lwV_snoc : ∀ (l : Bs) (p : Bool) (c : UInt8), lwV p (l ++ [c]) = whV c
  | [], _, _ => rfl
  | _ :: t, _, c => lwV_snoc t _ c
theorem takeV (l : Bs) (i : Nat) (h : i < l.length) : l.take (i + 1) = l.take i ++ [l.getD i 0] := by
  rw [List.take_succ_eq_append_getElem h]; simp [List.getD, h]
theorem lwV_take (l : Bs) (i : Nat) (h : i ≤ l.length) : lwV false (l.take i) = (decide (0 < i) && whV (l.getD (i - 1) 0)) := by
  cases i with
  | zero => simp [lwV]
  | succ j => rw [takeV l j (by omega), lwV_snoc]; simp
theorem nar_take (l : Bs) (i : Nat) (h : i < l.length) : narL (l.take (i + 1)) = narL (l.take i) ++ addV (decide (0 < i) && whV (l.getD (i - 1) 0)) (l.getD i 0) := by
  unfold narL
  rw [takeV l i h, narG_snoc, lwV_take l i (by omega)]

/-- a name put into its place -/
theorem ins_new (o : List Bs) (s : Bs) (k : Nat) (hk : k ≤ o.length) (ho : o.Pairwise (· < ·)) (h1 : ∀ x ∈ o.drop k, s < x) (h2 : k = 0 ∨ o.getD (k - 1) [] < s) :
    (o.take k ++ s :: o.drop k).Pairwise (· < ·) ∧ ∀ x, x ∈ o.take k ++ s :: o.drop k ↔ x ∈ o ∨ x = s := by
  constructor
  · rw [List.pairwise_append]
    refine ⟨ho.sublist (List.take_sublist k o), ?_, fun a ha b hb => ?_⟩
    · rw [List.pairwise_cons]
      exact ⟨h1, ho.sublist (List.drop_sublist k o)⟩
    · have has : a < s := by
        rcases h2 with rfl | h2
        · simp at ha
        · rw [List.mem_take_iff_getElem] at ha
          obtain ⟨j, hj, rfl⟩ := ha
          have hj1 : j < k := by omega
          have hk1 : k - 1 < o.length := by omega
          have e : o.getD (k - 1) [] = o[k - 1] := by simp [List.getD, hk1]
          rw [e] at h2
          by_cases hjk : j = k - 1
          · subst hjk; exact h2
          · exact lt_tr (List.pairwise_iff_getElem.1 ho j (k - 1) (by omega) hk1 (by omega)) h2
      rcases List.mem_cons.1 hb with rfl | hb
      · exact has
      · exact lt_tr has (h1 b hb)
  · intro x
    have e : x ∈ o ↔ x ∈ o.take k ∨ x ∈ o.drop k := by
      rw [← List.mem_append, List.take_append_drop]
    rw [e, List.mem_append, List.mem_cons]
    constructor
    · rintro (h | h | h)
      · exact .inl (.inl h)
      · exact .inr h
      · exact .inl (.inr h)
    · rintro ((h | h) | h)
      · exact .inl h
      · exact .inr (.inr h)
      · exact .inr (.inl h)
theorem ins_set (P : List Bs) (s : Bs) (k : Nat) (hk : k ≤ (setL12 P).length) (h1 : ∀ x ∈ (setL12 P).drop k, s < x) (h2 : k = 0 ∨ (setL12 P).getD (k - 1) [] < s) :
    setL12 (P ++ [s]) = (setL12 P).take k ++ s :: (setL12 P).drop k := by
  obtain ⟨g1, g2⟩ := ins_new _ s k hk (set_lt P) h1 h2
  refine set_unique _ _ (set_lt _) g1 (fun x => ?_)
  rw [set_memV, g2, set_memV, List.mem_append, List.mem_singleton]
theorem ins_old (P : List Bs) (s : Bs) (k : Nat) (hk : k < (setL12 P).length) (h2 : (setL12 P).getD k [] = s) :
    setL12 (P ++ [s]) = setL12 P := by
  refine set_unique _ _ (set_lt _) (set_lt _) (fun x => ?_)
  rw [set_memV, set_memV, List.mem_append, List.mem_singleton]
  constructor
  · rintro (h | rfl)
    · exact h
    · rw [← set_memV P, ← h2]
      simp [List.getD, hk]
  · exact .inl
theorem set_nil : setL12 [] = [] := by
  refine set_unique _ _ (set_lt _) List.Pairwise.nil (fun x => ?_)
  rw [set_memV]
theorem drop_stepV (o : List Bs) (k : Nat) (hk : k < o.length) (s : Bs) (h : s < o.getD k []) (h1 : ∀ x ∈ o.drop (k + 1), s < x) : ∀ x ∈ o.drop k, s < x := by
  intro x hx
  rw [List.drop_eq_getElem_cons hk] at hx
  have e : o.getD k [] = o[k] := by simp [List.getD, hk]
  rw [e] at h
  rcases List.mem_cons.1 hx with rfl | hx
  · exact h
  · exact h1 x hx
theorem notlt_le (a b : Bs) (h : ¬ b < a) (hn : a ≠ b) : a < b := bs_lt (List.not_lt.1 h) hn
end Tk
end Go.Proofs.YthooghgiokgdhaaGreatDoor
namespace Go.Proofs.YthooghgiokgdhaaGreatDoor
namespace Tk

def vis (c : UInt8) : Bool := decide (33 ≤ c.toNat) && decide (c.toNat ≤ 126)
def someL (p : UInt8 → Bool) (l : Bs) : Bool := !l.isEmpty && l.all p
def tokL (l : Bs) : Bool := !l.isEmpty && allL 2 l
def oneDig (l : Bs) : Bool := decide (l.length = 1) && l.all isDig
def httpL : Bs := [72, 84, 84, 80, 47]

def vN (l : Bs) : Bs := if httpL.isPrefixOf l then l.drop 5 else l
def vA (l : Bs) : Bs := (cutL 46 (vN l)).1
def vB (l : Bs) : Bs := (cutL 46 (vN l)).2.1
def vForm (l : Bs) : Bool := httpL.isPrefixOf l && (oneDig (vA l) && oneDig (vB l))
def vKnown (l : Bs) : Bool := decide (vA l = [49]) && (decide (vB l = [48]) || decide (vB l = [49]))
def vSt (l : Bs) : Nat := if vForm l then (if vKnown l then 0 else 505) else 400
def vMi (l : Bs) : Nat := if vSt l = 0 then ((vB l).getD 0 0).toNat - 48 else 0

theorem mem_takeWhile_of (p : UInt8 → Bool) : ∀ (l : Bs) (x : UInt8), x ∈ l.takeWhile p → p x = true
  | [], x, h => by simp at h
  | a :: t, x, h => by
    rw [List.takeWhile_cons] at h
    split at h
    · next ha =>
      rcases List.mem_cons.1 h with rfl | h
      · exact ha
      · exact mem_takeWhile_of p t x h
    · simp at h
theorem dropWhile_ne (c : UInt8) : ∀ l : Bs, c ∈ l → l.dropWhile (· != c) = c :: (l.dropWhile (· != c)).drop 1
  | [], h => by simp at h
  | a :: t, h => by
    by_cases e : a = c
    · subst e; rw [List.dropWhile_cons]; simp
    · have e' : (a != c) = true := by simpa using e
      rw [List.dropWhile_cons, if_pos e']
      rcases List.mem_cons.1 h with rfl | h
      · exact absurd rfl e
      · exact dropWhile_ne c t h
theorem cut_split (c : UInt8) (l : Bs) : l = (cutL c l).1 ++ (if (cutL c l).2.2 then c :: (cutL c l).2.1 else []) := by
  unfold cutL
  by_cases h : l.contains c
  · rw [if_pos h]
    simp only [if_true]
    have hd := dropWhile_ne c l (by simpa using h)
    have := List.takeWhile_append_dropWhile (p := (· != c)) (l := l)
    rw [hd] at this
    exact this.symm
  · rw [if_neg h]; simp
theorem cut_first (c : UInt8) (l : Bs) : ∀ x ∈ (cutL c l).1, x ≠ c := by
  unfold cutL
  by_cases h : l.contains c
  · rw [if_pos h]
    intro x hx
    have := mem_takeWhile_of _ _ _ hx
    simpa using this
  · rw [if_neg h]
    intro x hx e
    subst e
    exact h (by simpa using hx)
theorem cut_none (c : UInt8) (l : Bs) (h : ∀ x ∈ l, x ≠ c) : cutL c l = (l, [], false) := by
  unfold cutL
  rw [if_neg]
  intro hc
  exact h c (by simpa using hc) rfl
theorem cutL_at (c : UInt8) (a b : Bs) (h : ∀ x ∈ a, x ≠ c) : cutL c (a ++ c :: b) = (a, b, true) := by
  have hn : ∀ x ∈ a, (x != c) = true := fun x hx => by simpa using h x hx
  unfold cutL
  rw [if_pos (by simp)]
  rw [List.takeWhile_append_of_pos hn, List.dropWhile_append_of_pos hn, List.takeWhile_cons, List.dropWhile_cons]
  simp
theorem cut_empty (c : UInt8) : cutL c [] = ([], [], false) := rfl

theorem oneDig_of (l : Bs) (h : oneDig l = true) : ∃ c, l = [c] ∧ isDig c = true := by
  unfold oneDig at h
  match l, h with
  | [c], h => exact ⟨c, rfl, by simpa using h⟩
theorem oneDig_one (c : UInt8) (h : isDig c = true) : oneDig [c] = true := by unfold oneDig; simp [h]
theorem dig_bd (c : UInt8) (h : isDig c = true) : 48 ≤ c.toNat ∧ c.toNat ≤ 57 := by
  unfold isDig at h; simpa using h

/-- a version that is well formed: its eight bytes -/
theorem vForm_of (l : Bs) (h : vForm l = true) : ∃ a b, isDig a = true ∧ isDig b = true ∧ l = httpL ++ [a, 46, b] ∧ vA l = [a] ∧ vB l = [b] := by
  unfold vForm at h
  simp only [Bool.and_eq_true] at h
  obtain ⟨hp, ha, hb⟩ := h
  obtain ⟨a, ea, da⟩ := oneDig_of _ ha
  obtain ⟨b, eb, db⟩ := oneDig_of _ hb
  refine ⟨a, b, da, db, ?_, ea, eb⟩
  obtain ⟨t, ht⟩ := List.isPrefixOf_iff_prefix.1 hp
  have hn : vN l = t := by
    unfold vN; rw [if_pos hp, ← ht]; rfl
  have hs := cut_split 46 t
  unfold vA at ea
  unfold vB at eb
  rw [hn] at ea eb
  rw [ea, eb] at hs
  by_cases hf : (cutL 46 t).2.2
  · rw [if_pos hf] at hs
    rw [← ht, hs]; rfl
  · have : (cutL 46 t).2.1 = [] := by
      unfold cutL at hf ⊢
      by_cases hc : t.contains 46
      · rw [if_pos hc] at hf; exact absurd rfl hf
      · rw [if_neg hc]
    rw [this] at eb; cases eb
theorem vN_http (t : Bs) : vN (httpL ++ t) = t := by
  unfold vN
  rw [if_pos (List.isPrefixOf_iff_prefix.2 ⟨t, rfl⟩)]; rfl
theorem v_digits (a b : UInt8) (ha : isDig a = true) (hb : isDig b = true) : vForm (httpL ++ [a, 46, b]) = true ∧ vA (httpL ++ [a, 46, b]) = [a] ∧ vB (httpL ++ [a, 46, b]) = [b] := by
  have hne : ∀ x ∈ [a], x ≠ (46 : UInt8) := fun x hx e => by
    rw [List.mem_singleton] at hx
    subst hx; subst e
    exact absurd ha (by decide)
  have hc : cutL 46 (vN (httpL ++ [a, 46, b])) = ([a], [b], true) := by
    rw [vN_http]; exact cutL_at 46 [a] [b] hne
  have h1 : vA (httpL ++ [a, 46, b]) = [a] := by unfold vA; rw [hc]
  have h2 : vB (httpL ++ [a, 46, b]) = [b] := by unfold vB; rw [hc]
  refine ⟨?_, h1, h2⟩
  unfold vForm
  rw [h1, h2, oneDig_one a ha, oneDig_one b hb, List.isPrefixOf_iff_prefix.2 ⟨_, rfl⟩]; rfl

/-- the text of a version that is supported -/
def vText (m : Nat) : Bs := [72, 84, 84, 80, 47, 49, 46, UInt8.ofNat (48 + m)]
theorem vText_ok (m : Nat) (h : m = 0 ∨ m = 1) : vSt (vText m) = 0 ∧ vMi (vText m) = m := by
  rcases h with rfl | rfl <;> decide
theorem vSt_zero (l : Bs) (h : vSt l = 0) : (vMi l = 0 ∨ vMi l = 1) ∧ l = vText (vMi l) := by
  have hm : vMi l = ((vB l).getD 0 0).toNat - 48 := by unfold vMi; rw [if_pos h]
  unfold vSt at h
  split at h
  · next hf =>
    split at h
    · next hk =>
      obtain ⟨a, b, da, db, el, ea, eb⟩ := vForm_of l hf
      unfold vKnown at hk
      rw [ea, eb] at hk
      rw [eb] at hm
      simp at hk
      obtain ⟨rfl, hk⟩ := hk
      rcases hk with rfl | rfl
      · have : vMi l = 0 := hm
        rw [this]; exact ⟨.inl rfl, el⟩
      · have : vMi l = 1 := hm
        rw [this]; exact ⟨.inr rfl, el⟩
    · cases h
  · cases h
theorem vSt_three (l : Bs) : vSt l = 0 ∨ vSt l = 400 ∨ vSt l = 505 := by
  unfold vSt; split
  · split <;> simp
  · simp

/-- the parts of a request line, or why it is none -/
def rM (l : Bs) : Bs := (cutL 32 l).1
def rT (l : Bs) : Bs := (cutL 32 (cutL 32 l).2.1).1
def rV (l : Bs) : Bs := (cutL 32 (cutL 32 l).2.1).2.1
def rIn (m t : Bs) : Bool := tokL m && someL vis t
def rSt (l : Bs) : Nat := if rIn (rM l) (rT l) then vSt (rV l) else 400
def reqM (l : Bs) : Bs := if rSt l = 0 then rM l else []
def reqT (l : Bs) : Bs := if rSt l = 0 then rT l else []
def reqN (l : Bs) : Nat := if rSt l = 0 then vMi (rV l) else 0

theorem all_ne (p : UInt8 → Bool) (l : Bs) (h : l.all p = true) (c : UInt8) (hc : p c = false) : ∀ x ∈ l, x ≠ c := by
  intro x hx e
  subst e
  rw [List.all_eq_true] at h
  rw [h x hx] at hc
  cases hc
theorem tok_ne (l : Bs) (h : tokL l = true) (c : UInt8) (hc : kindOf c.toNat < 2) : ∀ x ∈ l, x ≠ c := by
  unfold tokL at h
  rw [Bool.and_eq_true] at h
  intro x hx e
  subst e
  have := allL_mem 2 l h.2 x hx
  omega

def reqLine (m t : Bs) (n : Nat) : Bs := m ++ 32 :: (t ++ 32 :: vText n)
theorem req_cuts (m t v : Bs) (hm : tokL m = true) (ht : someL vis t = true) : rM (m ++ 32 :: (t ++ 32 :: v)) = m ∧ rT (m ++ 32 :: (t ++ 32 :: v)) = t ∧ rV (m ++ 32 :: (t ++ 32 :: v)) = v := by
  have h1 : cutL 32 (m ++ 32 :: (t ++ 32 :: v)) = (m, t ++ 32 :: v, true) := cutL_at 32 m _ (tok_ne m hm 32 (by decide))
  unfold someL at ht
  rw [Bool.and_eq_true] at ht
  have h2 : cutL 32 (t ++ 32 :: v) = (t, v, true) := cutL_at 32 t v (all_ne vis t ht.2 32 (by decide))
  unfold rM rT rV
  rw [h1]
  simp only [h2, and_self]
theorem req_line (m t : Bs) (n : Nat) (hm : tokL m = true) (ht : someL vis t = true) (hn : n = 0 ∨ n = 1) :
    rSt (reqLine m t n) = 0 ∧ reqM (reqLine m t n) = m ∧ reqT (reqLine m t n) = t ∧ reqN (reqLine m t n) = n := by
  obtain ⟨h1, h2, h3⟩ := req_cuts m t (vText n) hm ht
  obtain ⟨v1, v2⟩ := vText_ok n hn
  have hs : rSt (reqLine m t n) = 0 := by
    unfold rSt reqLine rIn
    rw [h1, h2, h3, hm, ht]
    exact v1
  refine ⟨hs, ?_, ?_, ?_⟩
  · unfold reqM; rw [if_pos hs]; exact h1
  · unfold reqT; rw [if_pos hs]; exact h2
  · unfold reqN; rw [if_pos hs]; unfold reqLine; rw [h3]; exact v2
theorem cut_nil_of (c : UInt8) (l : Bs) (h : (cutL c l).2.2 = false) : (cutL c l).2.1 = [] := by
  unfold cutL at h ⊢
  by_cases hc : l.contains c
  · rw [if_pos hc] at h; cases h
  · rw [if_neg hc]
/-- a line that is a request line is the one that says its parts -/
theorem req_is (l : Bs) (h : rSt l = 0) : l = reqLine (reqM l) (reqT l) (reqN l) ∧ tokL (reqM l) = true ∧ someL vis (reqT l) = true ∧ (reqN l = 0 ∨ reqN l = 1) := by
  have e1 : reqM l = rM l := by unfold reqM; rw [if_pos h]
  have e2 : reqT l = rT l := by unfold reqT; rw [if_pos h]
  have e3 : reqN l = vMi (rV l) := by unfold reqN; rw [if_pos h]
  rw [e1, e2, e3]
  unfold rSt at h
  split at h
  · next hin =>
    unfold rIn at hin
    rw [Bool.and_eq_true] at hin
    obtain ⟨hm, ht⟩ := hin
    obtain ⟨hv, hvt⟩ := vSt_zero _ h
    refine ⟨?_, hm, ht, hv⟩
    have s1 := cut_split 32 l
    have s2 := cut_split 32 (cutL 32 l).2.1
    have f1 : (cutL 32 l).2.2 = true := by
      cases hf : (cutL 32 l).2.2 with
      | true => rfl
      | false =>
        have := cut_nil_of 32 l hf
        unfold rT at ht
        rw [this, cut_empty] at ht
        cases ht
    have f2 : (cutL 32 (cutL 32 l).2.1).2.2 = true := by
      cases hf : (cutL 32 (cutL 32 l).2.1).2.2 with
      | true => rfl
      | false =>
        have := cut_nil_of 32 _ hf
        have hr : rV l = [] := this
        rw [hr] at h
        exact absurd h (by decide)
    rw [if_pos f1] at s1
    rw [if_pos f2] at s2
    rw [s2] at s1
    have hvt' : (cutL 32 (cutL 32 l).2.1).2.1 = vText (vMi (rV l)) := hvt
    rw [hvt'] at s1
    exact s1
  · cases h
theorem rSt_three (l : Bs) : rSt l = 0 ∨ rSt l = 400 ∨ rSt l = 505 := by
  unfold rSt; split
  · exact vSt_three _
  · simp

/-- the parts of a status line, or that it is none -/
def sV (l : Bs) : Bs := (cutL 32 l).1
def sD (l : Bs) : Bs := (cutL 32 (cutL 32 l).2.1).1
def sR (l : Bs) : Bs := (cutL 32 (cutL 32 l).2.1).2.1
def sB (l : Bs) : Bool := (cutL 32 (cutL 32 l).2.1).2.2
def sIn (n : Nat) (r : Bs) : Bool := decide (100 ≤ n) && decide (n ≤ 599) && r.all fun c => decide (1 ≤ kindOf c.toNat)
def sOk (l : Bs) : Bool := decide (vSt (sV l) = 0) && decide ((numL (sD l)).2 = 0) && decide ((sD l).length = 3) && sB l && sIn (numL (sD l)).1 (sR l)
def staM (l : Bs) : Nat := if sOk l then vMi (sV l) else 0
def staN (l : Bs) : Nat := if sOk l then (numL (sD l)).1 else 0
def staR (l : Bs) : Bs := if sOk l then sR l else []
def staE (l : Bs) : Nat := if sOk l then 0 else 4

def staLine (m n : Nat) (r : Bs) : Bs := vText m ++ 32 :: (digL n ++ 32 :: r)

theorem digL_three (n : Nat) (h0 : 100 ≤ n) (h1 : n ≤ 599) : digL n = [UInt8.ofNat (48 + n / 100), UInt8.ofNat (48 + n / 10 % 10), UInt8.ofNat (48 + n % 10)] := by
  rw [digL, dif_neg (by omega), digL, dif_neg (by omega), digL, dif_pos (by omega), Nat.div_div_eq_div_mul]; rfl
theorem digs_all (n : Nat) : (digL n).all isDig = true := by
  rw [List.all_eq_true]; exact digL_digits n n (Nat.le_refl _)
theorem num_digL (n : Nat) (h : n ≤ maxN) : numL (digL n) = (n, 0) := by
  have := num_zeros 0 n
  rw [List.replicate_zero, List.nil_append] at this
  rw [this, if_neg (by omega)]
theorem num_three_dig (l : Bs) (hl : l.length = 3) (h : (numL l).2 = 0) (h0 : 100 ≤ (numL l).1) (h1 : (numL l).1 ≤ 599) : l = digL (numL l).1 := by
  match l, hl with
  | [a, b, c], _ =>
    have hd : ∀ x ∈ [a, b, c], isDig x = true := by
      intro x hx
      cases hx' : isDig x with
      | true => rfl
      | false =>
        have : numL [a, b, c] = (0, 4) := by
          unfold numL
          rw [if_neg (by simp), numGo_bad _ _ ⟨x, hx, hx'⟩]
        rw [this] at h; cases h
    have da := dig_bd a (hd a (by simp))
    have db := dig_bd b (hd b (by simp))
    have dc := dig_bd c (hd c (by simp))
    have hv : (numL [a, b, c]).1 = (a.toNat - 48) * 100 + (b.toNat - 48) * 10 + (c.toNat - 48) := by
      unfold numL
      rw [if_neg (by simp), numGo_val _ _ hd]
      have e : valFrom 0 [a, b, c] = ((0 * 10 + (a.toNat - 48)) * 10 + (b.toNat - 48)) * 10 + (c.toNat - 48) := rfl
      rw [e, if_neg (by unfold maxN; omega)]
      show _ = _
      omega
    rw [hv] at h0 h1 ⊢
    rw [digL_three _ h0 h1]
    have e1 : ((a.toNat - 48) * 100 + (b.toNat - 48) * 10 + (c.toNat - 48)) / 100 = a.toNat - 48 := by omega
    have e2 : ((a.toNat - 48) * 100 + (b.toNat - 48) * 10 + (c.toNat - 48)) / 10 % 10 = b.toNat - 48 := by omega
    have e3 : ((a.toNat - 48) * 100 + (b.toNat - 48) * 10 + (c.toNat - 48)) % 10 = c.toNat - 48 := by omega
    rw [e1, e2, e3]
    have f : ∀ x : UInt8, 48 ≤ x.toNat → UInt8.ofNat (48 + (x.toNat - 48)) = x := fun x hx => by
      rw [show 48 + (x.toNat - 48) = x.toNat by omega]; exact UInt8.ofNat_toNat
    rw [f a da.1, f b db.1, f c dc.1]
theorem dig_ne (l : Bs) (h : l.all isDig = true) (c : UInt8) (hc : isDig c = false) : ∀ x ∈ l, x ≠ c := all_ne isDig l h c hc

theorem vText_ne (m : Nat) (h : m = 0 ∨ m = 1) : ∀ x ∈ vText m, x ≠ (32 : UInt8) := by
  rcases h with rfl | rfl <;> decide
theorem sta_line (m n : Nat) (r : Bs) (hm : m = 0 ∨ m = 1) (hr : sIn n r = true) :
    sOk (staLine m n r) = true ∧ staM (staLine m n r) = m ∧ staN (staLine m n r) = n ∧ staR (staLine m n r) = r ∧ staE (staLine m n r) = 0 := by
  have hr' := hr
  unfold sIn at hr'
  simp only [Bool.and_eq_true, decide_eq_true_eq] at hr'
  obtain ⟨⟨h0, h1⟩, hr2⟩ := hr'
  have c1 : cutL 32 (staLine m n r) = (vText m, digL n ++ 32 :: r, true) := cutL_at 32 _ _ (vText_ne m hm)
  have c2 : cutL 32 (digL n ++ 32 :: r) = (digL n, r, true) := cutL_at 32 _ _ (dig_ne _ (digs_all n) 32 (by decide))
  obtain ⟨v1, v2⟩ := vText_ok m hm
  have hnum := num_digL n (by unfold maxN; omega)
  have hlen : (digL n).length = 3 := by rw [digL_three n h0 h1]; rfl
  have e1 : sV (staLine m n r) = vText m := by unfold sV; rw [c1]
  have e2 : sD (staLine m n r) = digL n := by unfold sD; rw [c1]; simp only [c2]
  have e3 : sR (staLine m n r) = r := by unfold sR; rw [c1]; simp only [c2]
  have e4 : sB (staLine m n r) = true := by unfold sB; rw [c1]; simp only [c2]
  have hs : sOk (staLine m n r) = true := by
    unfold sOk
    rw [e1, e2, e3, e4, v1, hnum, hlen, hr]; rfl
  refine ⟨hs, ?_, ?_, ?_, ?_⟩
  · unfold staM; rw [if_pos hs, e1]; exact v2
  · unfold staN; rw [if_pos hs, e2, hnum]
  · unfold staR; rw [if_pos hs]; exact e3
  · unfold staE; rw [if_pos hs]
theorem sta_is (l : Bs) (h : sOk l = true) : l = staLine (staM l) (staN l) (staR l) ∧ (staM l = 0 ∨ staM l = 1) ∧ sIn (staN l) (staR l) = true := by
  have e1 : staM l = vMi (sV l) := by unfold staM; rw [if_pos h]
  have e2 : staN l = (numL (sD l)).1 := by unfold staN; rw [if_pos h]
  have e3 : staR l = sR l := by unfold staR; rw [if_pos h]
  rw [e1, e2, e3]
  have h' := h
  unfold sOk at h'
  simp only [Bool.and_eq_true, decide_eq_true_eq] at h'
  obtain ⟨⟨⟨⟨hv, hn⟩, hl⟩, hb⟩, hin⟩ := h'
  obtain ⟨hm, hvt⟩ := vSt_zero _ hv
  refine ⟨?_, hm, hin⟩
  have hin' := hin
  unfold sIn at hin'
  simp only [Bool.and_eq_true, decide_eq_true_eq] at hin'
  have hd := num_three_dig (sD l) hl hn hin'.1.1 hin'.1.2
  have s1 := cut_split 32 l
  have s2 := cut_split 32 (cutL 32 l).2.1
  have f1 : (cutL 32 l).2.2 = true := by
    cases hf : (cutL 32 l).2.2 with
    | true => rfl
    | false =>
      have := cut_nil_of 32 l hf
      unfold sB at hb
      rw [this, cut_empty] at hb
      cases hb
  unfold sB at hb
  rw [if_pos f1] at s1
  rw [if_pos hb] at s2
  rw [s2] at s1
  have hd' : (cutL 32 (cutL 32 l).2.1).1 = digL (numL (sD l)).1 := hd
  have hv' : (cutL 32 l).1 = vText (vMi (sV l)) := hvt
  rw [hd', hv'] at s1
  exact s1
/-- no text is both -/
theorem not_both (l : Bs) (h : rSt l = 0) : sOk l = false := by
  cases hs : sOk l with
  | false => rfl
  | true =>
    obtain ⟨e, hm, -⟩ := sta_is l hs
    have c1 : cutL 32 l = (vText (staM l), digL (staN l) ++ 32 :: staR l, true) := by
      conv => lhs; rw [e]
      exact cutL_at 32 _ _ (vText_ne _ hm)
    obtain ⟨-, ht, -, -⟩ := req_is l h
    unfold reqM at ht
    rw [if_pos h] at ht
    unfold rM at ht
    rw [c1] at ht
    have ht' : tokL (vText (staM l)) = true := ht
    rcases hm with hm | hm <;> rw [hm] at ht' <;> exact absurd ht' (by decide)
end Tk
end Go.Proofs.YthooghgiokgdhaaGreatDoor
