/- Package method: sets of constants, searched; the document's side. -/
import Derived.Test.YtnbipbeeengiaaaMetZ
namespace Go.Proofs.Ytnbipbeeengiaaa
open Go.RowKit
namespace Tk

/-- a slice that holds these numbers -/
def IsNums (w : World) (v : Value) (l : List Int) : Prop :=
  ∃ (a : Option Addr) (c : Nat), v = .slice a l.length c ∧ ∀ j t, l[j]? = some t → ∃ b o, a = some ⟨b, o, none⟩ ∧ w.cell? ⟨b, o + j, none⟩ = some (.int .i64 t)
theorem below_allocM (w : World) (o : Obj) : Below w.heap.size w (w.alloc o) := (Below.refl _ _).alloc (Nat.le_refl _) _
theorem isStrsM_below {w w' : World} {v : Value} {l : List Bs} (h : IsStrs w v l) (hb : Below w.heap.size w w') : IsStrs w' v l := by
  obtain ⟨a, c, rfl, h⟩ := h
  refine ⟨a, c, rfl, fun j t hj => ?_⟩
  obtain ⟨b, o, rfl, h1⟩ := h j t hj
  exact ⟨b, o, rfl, (hb.cell (p := ⟨b, o + j, none⟩) (by
    rcases Nat.lt_or_ge b w.heap.size with h2 | h2
    · exact h2
    · rw [World.cell?, show w.heap[b]? = none by simp [h2]] at h1; cases h1)).trans h1⟩
theorem isNums_lit (w : World) (l : List Int) (cs : Array Value) (t : TypeId) (c : Nat) (h : cs = (l.map fun n => Value.int .i64 n).toArray) : IsNums (w.alloc (.cells cs t)) (.slice (some ⟨w.heap.size, 0, none⟩) l.length c) l := by
  refine ⟨_, c, rfl, fun j x hj => ⟨w.heap.size, 0, rfl, ?_⟩⟩
  rw [Nat.zero_add, World.cell?_alloc_new, h]
  simp [hj]

def mtCONNECT : Bs := [67, 79, 78, 78, 69, 67, 84]
def mtDELETE : Bs := [68, 69, 76, 69, 84, 69]
def mtGET : Bs := [71, 69, 84]
def mtHEAD : Bs := [72, 69, 65, 68]
def mtOPTIONS : Bs := [79, 80, 84, 73, 79, 78, 83]
def mtPATCH : Bs := [80, 65, 84, 67, 72]
def mtPOST : Bs := [80, 79, 83, 84]
def mtPUT : Bs := [80, 85, 84]
def mtTRACE : Bs := [84, 82, 65, 67, 69]
def nmsM : List Bs := [mtCONNECT, mtDELETE, mtGET, mtHEAD, mtOPTIONS, mtPATCH, mtPOST, mtPUT, mtTRACE]
def cachM (m : Bs) : Bool := decide (m ∈ [mtGET, mtHEAD])
def safeM (m : Bs) : Bool := cachM m || decide (m ∈ [mtOPTIONS, mtTRACE])
def idemM (m : Bs) : Bool := safeM m || decide (m ∈ [mtPUT, mtDELETE])
def knowM (m : Bs) : Bool := decide (m ∈ nmsM)
def heuM (n : Int) : Bool := decide (n ∈ ([200, 203, 204, 206, 300, 301, 308, 404, 405, 410, 414, 501] : List Int))
def undM (n : Int) : Bool := decide (n ∈ ([200, 203, 204, 300, 301, 302, 307, 308, 404, 405, 410, 414, 501] : List Int))
def brkM (n : Int) : Bool := decide (n ∈ ([500, 502, 503, 504] : List Int))
def finM (n : Int) : Bool := decide (200 ≤ n) && decide (n ≤ 599)

set_option maxHeartbeats 2000000 in
set_option maxRecDepth 100000 in
theorem amongS_any (x : Bs) (v : Value) (L : List Bs) (w : World) (hs : IsStrs w v L) (hl : L.length ≤ 1000) :
    Calls Try.prog 26 #[.string (mkS x), v] w fun e w' => e = .returned (.bool (decide (x ∈ L))) ∧ w = w' := by
  obtain ⟨a, c, rfl, k⟩ := hs
  have K := Lib.hid k
  clear k
  go_enter Try.func26, Try.ntmps26
  go_wp2_with fail
  go_loopw [6, 9] (fun _ vi wr => ∃ i : Nat, i ≤ L.length ∧ vi = .int .i64 i ∧ w = wr ∧ Hid (decide (x ∈ L) = decide (x ∈ L.drop i))) (fun _ vi _ => L.length - (RowKit.intOf vi).toNat)
  case atStart => exact ⟨0, Nat.zero_le _, rfl, rfl, rfl⟩
  case round =>
    obtain ⟨i, hi, rfl, rfl, HD⟩ := hrel
    by_cases hlt : i < L.length
    · obtain ⟨b, o, rfl, e1⟩ := K.out i (L.getD i []) (by simp [List.getD, hlt])
      have s1 : L.drop i = L.getD i [] :: L.drop (i + 1) := by rw [List.drop_eq_getElem_cons hlt]; simp [List.getD, hlt]
      have S1 := Lib.hid s1
      clear s1
      generalize L.getD i [] = t at *
      by_cases ht : t = x
      · have bt : ((mkS t).toList == (mkS x).toList) = true := by rw [ht]; simp
        have fin : decide (x ∈ L) = true := by rw [HD.out, S1.out]; simp [ht]
        have HF := Lib.hid fin
        clear fin ht
        go_wp2_with fail
        go_ret
        exact ⟨by rw [HF.out]; rfl, by first | trivial | rfl⟩
      · have bt : ((mkS t).toList == (mkS x).toList) = false := by rw [toList_bs, toList_bs, bs_mkS, bs_mkS, beq_eq_false_iff_ne]; exact ht
        have nx : decide (x ∈ L) = decide (x ∈ L.drop (i + 1)) := by
          rw [HD.out, S1.out]
          have h2 : ¬ x = t := fun e => ht e.symm
          simp [h2]
        have HF := Lib.hid nx
        clear nx ht
        go_wp2_with fail
        exact ⟨⟨i + 1, by omega, by go_num, by first | trivial | rfl, HF⟩, by simp [RowKit.intOf]; omega⟩
    · have fin : decide (x ∈ L) = false := by
        rw [HD.out, List.drop_eq_nil_of_le (by omega)]; simp
      have HF := Lib.hid fin
      clear fin
      go_wp2_with fail
      go_ret
      exact ⟨by rw [HF.out]; rfl, by first | trivial | rfl⟩


set_option maxHeartbeats 2000000 in
set_option maxRecDepth 100000 in
theorem amongI_any (x : Int) (v : Value) (L : List Int) (w : World) (hs : IsNums w v L) (hl : L.length ≤ 1000) :
    Calls Try.prog 27 #[.int .i64 x, v] w fun e w' => e = .returned (.bool (decide (x ∈ L))) ∧ w = w' := by
  obtain ⟨a, c, rfl, k⟩ := hs
  have K := Lib.hid k
  clear k
  go_enter Try.func27, Try.ntmps27
  go_wp2_with fail
  go_loopw [6, 9] (fun _ vi wr => ∃ i : Nat, i ≤ L.length ∧ vi = .int .i64 i ∧ w = wr ∧ Hid (decide (x ∈ L) = decide (x ∈ L.drop i))) (fun _ vi _ => L.length - (RowKit.intOf vi).toNat)
  case atStart => exact ⟨0, Nat.zero_le _, rfl, rfl, rfl⟩
  case round =>
    obtain ⟨i, hi, rfl, rfl, HD⟩ := hrel
    by_cases hlt : i < L.length
    · obtain ⟨b, o, rfl, e1⟩ := K.out i (L.getD i 0) (by simp [List.getD, hlt])
      have s1 : L.drop i = L.getD i 0 :: L.drop (i + 1) := by rw [List.drop_eq_getElem_cons hlt]; simp [List.getD, hlt]
      have S1 := Lib.hid s1
      clear s1
      generalize L.getD i 0 = t at *
      by_cases ht : t = x
      · have bt : (t == x) = true := by rw [ht]; simp
        have fin : decide (x ∈ L) = true := by rw [HD.out, S1.out]; simp [ht]
        have HF := Lib.hid fin
        clear fin ht
        go_wp2_with fail
        go_ret
        exact ⟨by rw [HF.out]; rfl, by first | trivial | rfl⟩
      · have bt : (t == x) = false := by rw [beq_eq_false_iff_ne]; exact ht
        have nx : decide (x ∈ L) = decide (x ∈ L.drop (i + 1)) := by
          rw [HD.out, S1.out]
          have h2 : ¬ x = t := fun e => ht e.symm
          simp [h2]
        have HF := Lib.hid nx
        clear nx ht
        go_wp2_with fail
        exact ⟨⟨i + 1, by omega, by go_num, by first | trivial | rfl, HF⟩, by simp [RowKit.intOf]; omega⟩
    · have fin : decide (x ∈ L) = false := by
        rw [HD.out, List.drop_eq_nil_of_le (by omega)]; simp
      have HF := Lib.hid fin
      clear fin
      go_wp2_with fail
      go_ret
      exact ⟨by rw [HF.out]; rfl, by first | trivial | rfl⟩


set_option maxHeartbeats 2000000 in
set_option maxRecDepth 100000 in
theorem rin_any (x : Int) (v : Value) (L : List Int) (w : World) (hs : IsNums w v L) (hl : L.length ≤ 1000) :
    Calls Try.prog 28 #[.int .i64 x, v] w fun e w' => e = .returned (.bool (decide (x ∈ L))) ∧ w = w' := by
  obtain ⟨a, c, rfl, k⟩ := hs
  have K := Lib.hid k
  clear k
  go_enter Try.func28, Try.ntmps28
  go_wp2_with fail
  go_loopw [5] (fun vi wr => ∃ i : Nat, i ≤ L.length ∧ vi = .int .i64 i ∧ w = wr ∧ Hid (decide (x ∈ L) = decide (x ∈ L.drop i))) (fun vi _ => L.length - (RowKit.intOf vi).toNat)
  case atStart => exact ⟨0, Nat.zero_le _, rfl, rfl, rfl⟩
  case round =>
    obtain ⟨i, hi, rfl, rfl, HD⟩ := hrel
    by_cases hlt : i < L.length
    · obtain ⟨b, o, rfl, e1⟩ := K.out i (L.getD i 0) (by simp [List.getD, hlt])
      have s1 : L.drop i = L.getD i 0 :: L.drop (i + 1) := by rw [List.drop_eq_getElem_cons hlt]; simp [List.getD, hlt]
      have S1 := Lib.hid s1
      clear s1
      generalize L.getD i 0 = t at *
      by_cases ht : t = x
      · have bt : (t == x) = true := by rw [ht]; simp
        have fin : decide (x ∈ L) = true := by rw [HD.out, S1.out]; simp [ht]
        have HF := Lib.hid fin
        clear fin ht
        go_wp2_with fail
        go_ret
        exact ⟨by rw [HF.out]; rfl, by first | trivial | rfl⟩
      · have bt : (t == x) = false := by rw [beq_eq_false_iff_ne]; exact ht
        have nx : decide (x ∈ L) = decide (x ∈ L.drop (i + 1)) := by
          rw [HD.out, S1.out]
          have h2 : ¬ x = t := fun e => ht e.symm
          simp [h2]
        have HF := Lib.hid nx
        clear nx ht
        go_wp2_with fail
        exact ⟨⟨i + 1, by omega, by go_num, by first | trivial | rfl, HF⟩, by simp [RowKit.intOf]; omega⟩
    · have fin : decide (x ∈ L) = false := by
        rw [HD.out, List.drop_eq_nil_of_le (by omega)]; simp
      have HF := Lib.hid fin
      clear fin
      go_wp2_with fail
      go_ret
      exact ⟨by rw [HF.out]; rfl, by first | trivial | rfl⟩

end Tk
end Go.Proofs.Ytnbipbeeengiaaa
