/- field.Bytes: the lines of fields. -/
import Derived.Test.YtanilbckakoogaaGreatDoorFldL
import Derived.Test.YtanilbckakoogaaGreatDoorBldS
namespace Go.Proofs.YtanilbckakoogaaGreatDoor
open Go.RowKit
namespace Tk

/-- a slice that holds these fields -/
def IsFlds (w : World) (v : Value) (l : List (Bs × Bs)) : Prop :=
  ∃ (a : Option Addr) (c : Nat), v = .slice a l.length c ∧ l.length ≤ c ∧ ∀ j f, l[j]? = some f → ∃ b o, a = some ⟨b, o, none⟩ ∧ w.cell? ⟨b, o + j * 2, none⟩ = some (.string (mkS f.1)) ∧ w.cell? ⟨b, o + j * 2 + 1, none⟩ = some (.string (mkS f.2))
theorem cell_lt {w : World} {p : Addr} {v : Value} (h : w.cell? p = some v) : p.block < w.heap.size := by
  refine Nat.lt_of_not_le fun hle => ?_
  simp only [World.cell?, Array.getElem?_eq_none hle] at h
  cases h
theorem isFlds_below {w w' : World} {v : Value} {l : List (Bs × Bs)} (h : IsFlds w v l) (hb : Below w.heap.size w w') : IsFlds w' v l := by
  obtain ⟨a, c, rfl, hl, hc⟩ := h
  refine ⟨a, c, rfl, hl, fun j t hj => ?_⟩
  obtain ⟨b, o, rfl, h1, h2⟩ := hc j t hj
  exact ⟨b, o, rfl, (hb.cell (p := ⟨b, o + j * 2, none⟩) (cell_lt (p := ⟨b, o + j * 2, none⟩) h1)).trans h1, (hb.cell (p := ⟨b, o + j * 2 + 1, none⟩) (cell_lt (p := ⟨b, o + j * 2 + 1, none⟩) h2)).trans h2⟩

def sumF : List (Bs × Bs) → Nat
  | [] => 0
  | f :: t => f.1.length + f.2.length + 4 + sumF t
def linesF (l : List (Bs × Bs)) : Bs := l.flatMap bytesF
theorem bytesF_len (f : Bs × Bs) : (bytesF f).length = f.1.length + f.2.length + 4 := by
  unfold bytesF; simp only [List.length_append, List.length_cons, List.length_nil]; omega
theorem lines_len : ∀ l, (linesF l).length = sumF l
  | [] => rfl
  | f :: t => by
    have := lines_len t
    unfold linesF at *
    rw [List.flatMap_cons, List.length_append, this, bytesF_len, sumF]
theorem sumF_mem : ∀ (l : List (Bs × Bs)) (f : Bs × Bs), f ∈ l → f.1.length + f.2.length + 4 ≤ sumF l
  | g :: t, f, h => by
    unfold sumF
    rcases List.mem_cons.1 h with rfl | h
    · omega
    · have := sumF_mem t f h; omega
theorem sumF_take : ∀ (l : List (Bs × Bs)) (i : Nat), sumF (l.take i) ≤ sumF l
  | [], i => by simp
  | f :: t, 0 => by simp [sumF]
  | f :: t, i + 1 => by have := sumF_take t i; simp only [List.take_succ_cons, sumF]; omega

def byN (l : List (Bs × Bs)) : Bs := if okFs l then linesF l else []
def byE (l : List (Bs × Bs)) : Int := if okFs l then 0 else 4
def BytesPost (l : List (Bs × Bs)) (w : World) (e : Ending) (w' : World) : Prop := e = .returned (.tuple #[.string (mkS (byN l)), .int .i64 (byE l)]) ∧ Below w.heap.size w w'

theorem okFs_take_no (l : List (Bs × Bs)) (f : Bs × Bs) (h : f ∈ l) (hk : okF f.1 f.2 = false) : okFs l = false := by
  cases hh : okFs l
  · rfl
  · unfold okFs at hh
    rw [List.all_eq_true] at hh
    rw [hh f h] at hk; cases hk
theorem okFs_snoc (l : List (Bs × Bs)) (f : Bs × Bs) (h : okFs l = true) (hk : okF f.1 f.2 = true) : okFs (l ++ [f]) = true := by
  unfold okFs at *
  rw [List.all_append, h]; simp [hk]
theorem lines_snoc (l : List (Bs × Bs)) (f : Bs × Bs) : linesF (l ++ [f]) = linesF l ++ f.1 ++ [58, 32] ++ f.2 ++ [13, 10] := by
  unfold linesF bytesF; simp

theorem own_keep {w w' : World} {B : Nat} {v : Value} {n : Nat} {xs : List Value} {e : TypeId} (h : w.ownsRow B e 1 v n xs) (hb : Below w.heap.size w w') : w'.ownsRow B e 1 v n xs :=
  World.ownsRow.kept h (row := none) ⟨hb.os, hb.tape, hb.output, hb.size, fun k hk _ => hb.block k hk⟩ (by cases h : v.ownBlock <;> simp)
theorem at_below {w w' : World} {B b : Nat} {p : Value} {xs : List Value} (h : Lib.BuilderAt 45 5 B b p xs w) (hb : Below w.heap.size w w') : Lib.BuilderAt 45 5 B b p xs w' := by
  have hlt := h.lt
  obtain ⟨hB, v, h1, h2, h3⟩ := h
  exact ⟨hB, v, by rw [hb.block b hlt]; exact h1, own_keep h2 hb, h3⟩
theorem isB_below {w w' : World} {B b : Nat} {l : Bs} (h : IsB B b l w) (hb : Below w.heap.size w w') : IsB B b l w' := by
  rcases h with h | h
  · exact .inl (at_below h hb)
  · exact .inr (at_below h hb)
theorem isB_lt {w : World} {B b : Nat} {l : Bs} (h : IsB B b l w) : b < w.heap.size := by
  rcases h with h | h <;> exact h.lt
theorem Two.others {w w' : World} {g b : Nat} {T : TypeId} {x y : Value} (h : Two w g T x y) (ho : Others b w w') (hT : T ≠ 5) (hg : g ≠ b) : Two w' g T x y := ho g _ _ _ h hT hg

set_option maxHeartbeats 8000000 in
set_option maxRecDepth 100000 in
theorem bytes_any (v : Value) (l : List (Bs × Bs)) (w : World) (hs : IsFlds w v l) (hz : sumF l ≤ 1099511627) (hl : l.length ≤ 1099511627) :
    Calls Tryz.prog 15 #[v] w (BytesPost l w) := by
  have HS := Lib.hid hs
  obtain ⟨a, cap, rfl⟩ : ∃ a cap, v = .slice a l.length cap := by obtain ⟨a, c, h, -⟩ := hs; exact ⟨a, c, h⟩
  have HMem := Lib.hid (sumF_mem l)
  have hB0 := Lib.hid (Lib.fresh_isBuilder 45 5 w)
  have HB1 := Lib.hid (show Below w.heap.size w (w.alloc (Obj.cells #[Value.pointer none, Value.slice none 0 0] 45)) from (Below.refl _ _).alloc (Nat.le_refl _) _)
  have hsz : w.heap.size ≤ (w.alloc (Obj.cells #[Value.pointer none, Value.slice none 0 0] 45)).heap.size := by simp
  clear hs
  go_enter Tryz.func15, Tryz.ntmps15
  go_wp2_with fail
  generalize w.alloc (Obj.cells #[Value.pointer none, Value.slice none 0 0] 45) = W at *
  generalize hgw : w.heap.size = B at *
  have HGW := Lib.hid hgw
  clear hgw
  go_loopw [10] (fun v wr => ∃ i : Nat, i ≤ l.length ∧ v = .int .i64 i ∧ Hid (okFs (l.take i) = true) ∧ Hid (IsB B B (linesF (l.take i)) wr) ∧ Hid (Below B w wr) ∧ B ≤ wr.heap.size) (fun v _ => l.length - (RowKit.intOf v).toNat)
  case atStart => exact ⟨0, Nat.zero_le _, rfl, rfl, hB0.out, HB1.out, hsz⟩
  case round =>
    obtain ⟨i, hi, rfl, hok, hI, hB3, hBw⟩ := hrel
    rename World => W3
    have hpl := lines_len (l.take i)
    have hpt := sumF_take l i
    by_cases hlt : i < l.length
    · have hbw : Below w.heap.size w W3 := by rw [HGW.out]; exact hB3.out
      obtain ⟨a', c', e', hcap, hc⟩ := isFlds_below HS.out hbw
      injection e' with e1 _ e2
      subst e1 e2
      obtain ⟨b, o, rfl, hc0, hc1⟩ := hc i (l.getD i ([], [])) (by simp [List.getD, hlt])
      have hm := HMem.out (l.getD i ([], [])) (by simp [List.getD, hlt])
      have hmm : l.getD i ([], []) ∈ l := by simp [List.getD, hlt]
      have htk : l.take (i + 1) = l.take i ++ [l.getD i ([], [])] := by
        rw [List.take_succ_eq_append_getElem hlt]; simp [List.getD, hlt]
      have HTK := Lib.hid htk
      have HMM := Lib.hid hmm
      clear hc htk hmm hbw
      generalize l.getD i ([], []) = f at *
      obtain ⟨n, x⟩ := f
      have hnz := size_mkS n
      have hxz := size_mkS x
      simp only at hm hc0 hc1
      have HC := fun W : World => check_any' (mkS n) (mkS x) W (by omega) (by omega)
      rw [bs_mkS, bs_mkS] at HC
      have hBlt := isB_lt hI.out
      have hgB : W3.heap.size ≠ B := by omega
      have HF0 := Lib.hid (Two.new W3 40 (.string (mkS n)) (.string (mkS x)))
      have hb0 : Below W3.heap.size W3 (W3.alloc (Obj.cells #[.string (mkS n), .string (mkS x)] 40)) := (Below.refl _ _).alloc (Nat.le_refl _) _
      have HI0 := Lib.hid (isB_below hI.out hb0)
      have HB0 := Lib.hid (hB3.out.trans (hb0.mono hBw))
      have hq0 := HF0.out.c0
      have hq1 := HF0.out.c1
      have HMZ := Lib.hid hnz
      have HXZ := Lib.hid hxz
      have hs0 : B ≤ (W3.alloc (Obj.cells #[.string (mkS n), .string (mkS x)] 40)).heap.size := by simp; omega
      clear hb0 hnz hxz
      cases hk : okF n x
      · rw [okE_no _ _ hk] at HC
        have hno := okFs_take_no l (n, x) HMM.out hk
        have e1 : byN l = [] := by unfold byN; rw [hno]; rfl
        have e2 : byE l = 4 := by unfold byE; rw [hno]; rfl
        have E1 := Lib.hid e1
        have E2 := Lib.hid e2
        have HC2 := Lib.hid HC
        clear HC hk hno e1 e2
        go_wp2_with fail
        generalize W3.alloc (Obj.cells #[.string (mkS n), .string (mkS x)] 40) = W4 at *
        refine (HC2.out _).mono ?_
        rintro e w5 ⟨rfl, hb⟩
        have HB5 := Lib.hid (HB0.out.trans (hb.mono hs0))
        clear hb
        go_wp2_with fail
        go_ret2
        exact ⟨by rw [E1.out, E2.out]; rfl, by rw [HGW.out]; exact HB5.out⟩
      · rw [okE_ok _ _ hk] at HC
        have hok2 := okFs_snoc _ (n, x) hok.out hk
        rw [← HTK.out] at hok2
        have hln := lines_snoc (l.take i) (n, x)
        rw [← HTK.out] at hln
        simp only at hln
        have HLN := Lib.hid hln
        have HOK := Lib.hid hok2
        have HC2 := Lib.hid HC
        clear HC hk hok2 hln
        generalize linesF (l.take i) = P at *
        go_wp2_with fail
        generalize W3.alloc (Obj.cells #[.string (mkS n), .string (mkS x)] 40) = W4 at *
        generalize W3.heap.size = g at *
        refine (HC2.out _).mono ?_
        rintro e w5 ⟨rfl, hb⟩
        have HB5 := Lib.hid (HB0.out.trans (hb.mono hs0))
        have HF5 := HF0.out.later hb
        have hI5 := isB_below HI0.out hb
        have HX5 := Lib.hid hb.size
        have p0 := HF5.c0
        have HFF5 := Lib.hid HF5
        have H1 := Lib.hid (writeString B B P (mkS n) w5 hI5 (by have := HMZ.out; omega) (Nat.le_trans hs0 hb.size))
        clear hb HF5 hI5
        have hs5 := Nat.le_trans hs0 HX5.out
        go_wp2_with fail
        refine H1.out.mono ?_
        rintro e w6 ⟨rfl, hi6, hb6, ho6⟩
        have HFF6 := Lib.hid (HFF5.out.others ho6 (by decide) hgB)
        have HB6 := Lib.hid (HB5.out.trans hb6)
        have hs6 := Nat.le_trans hs5 hb6.size
        have H2 := Lib.hid (writeString B B _ ⟨#[58, 32]⟩ w6 hi6 (by rw [List.length_append, length_bs]; have := HMZ.out; have e1 : (ByteArray.mk #[58, 32]).size = 2 := rfl; omega) hs6)
        clear hi6 hb6 ho6 p0
        go_wp2_with fail
        refine H2.out.mono ?_
        rintro e w7 ⟨rfl, hi7, hb7, ho7⟩
        have HFF7 := HFF6.out.others ho7 (by decide) hgB
        have p1 := HFF7.c1
        have HFF7 := Lib.hid HFF7
        have HB7 := Lib.hid (HB6.out.trans hb7)
        have hs7 := Nat.le_trans hs6 hb7.size
        have H3 := Lib.hid (writeString B B _ (mkS x) w7 hi7 (by simp only [List.length_append, length_bs]; have := HMZ.out; have := HXZ.out; have e1 : (ByteArray.mk #[58, 32]).size = 2 := rfl; omega) hs7)
        clear hi7 hb7 ho7
        go_wp2_with fail
        refine H3.out.mono ?_
        rintro e w8 ⟨rfl, hi8, hb8, ho8⟩
        have HB8 := Lib.hid (HB7.out.trans hb8)
        have hs8 := Nat.le_trans hs7 hb8.size
        have H4 := Lib.hid (writeString B B _ ⟨#[13, 10]⟩ w8 hi8 (by simp only [List.length_append, length_bs]; have := HMZ.out; have := HXZ.out; have e1 : (ByteArray.mk #[58, 32]).size = 2 := rfl; have e2 : (ByteArray.mk #[13, 10]).size = 2 := rfl; omega) hs8)
        clear hi8 hb8 ho8 p1
        go_wp2_with fail
        refine H4.out.mono ?_
        rintro e w9 ⟨rfl, hi9, hb9, ho9⟩
        have HB9 := Lib.hid (HB8.out.trans hb9)
        have hs9 := Nat.le_trans hs8 hb9.size
        have HI9 : Hid (IsB B B (linesF (l.take (i + 1))) w9) := by
          show IsB B B (linesF (l.take (i + 1))) w9
          rw [HLN.out]
          exact hi9
        clear hi9 hb9 ho9
        go_wp2_with fail
        exact ⟨⟨i + 1, by omega, by go_num, HOK, HI9, HB9, hs9⟩, by simp [RowKit.intOf]; omega⟩
    · have hil : l.take i = l := List.take_of_length_le (by omega)
      rw [hil] at hok hI
      have e1 : byN l = linesF l := by unfold byN; rw [hok.out]; rfl
      have e2 : byE l = 0 := by unfold byE; rw [hok.out]; rfl
      have E1 := Lib.hid e1
      have E2 := Lib.hid e2
      have H3 := Lib.hid (Tryz.Builder_String_any B B (linesF l) W3 hI.out hBw)
      clear hil e1 e2
      go_wp2_with fail
      refine H3.out.mono ?_
      rintro e w5 ⟨rfl, hb5⟩
      have HB5 := Lib.hid (hB3.out.trans hb5)
      clear hb5
      go_wp2_with fail
      go_ret2
      exact ⟨by rw [E1.out, E2.out]; rfl, by rw [HGW.out]; exact HB5.out⟩
end Tk
end Go.Proofs.YtanilbckakoogaaGreatDoor
