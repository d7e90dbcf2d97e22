/- framing.Length. -/
import Derived.Test.YtapnlopeipdjmaaDoorFrmA
import Derived.BigQuiet
namespace Go.Proofs.YtapnlopeipdjmaaDoor
open Go.RowKit
namespace Tk

/-- a block of one cell of the call's own -/
def One (w : World) (g : Nat) (T : TypeId) (a : Value) : Prop := w.heap[g]? = some (.cells #[a] T (0, 0))
theorem One.new (w : World) (T : TypeId) (a : Value) : One (w.alloc (.cells #[a] T)) w.heap.size T a := heap_alloc_last w _
theorem One.lt {w : World} {g : Nat} {T : TypeId} {a : Value} (h : One w g T a) : g < w.heap.size := (Array.getElem?_eq_some_iff.1 h).1
theorem One.c0 {w : World} {g : Nat} {T : TypeId} {a : Value} (h : One w g T a) : w.cell? ⟨g, 0, none⟩ = some a := by rw [Lib.cell_of_heap h]; rfl
theorem One.f0 {w : World} {g : Nat} {T : TypeId} {a : Value} (h : One w g T a) : w.frozen? ⟨g, 0, none⟩ = false := Lib.frozen_of_heap h 0

def LenPost (l : List (Bs × Bs)) (w : World) (e : Ending) (w' : World) : Prop := e = .returned (.tuple #[.int .i64 (lenN l : Nat), .bool (hasF l nmCL), .int .i64 (lenS l : Nat)]) ∧ Below w.heap.size w w'

theorem len_ret (l : List (Bs × Bs)) (n : Nat) (b : Bool) (s : Nat) (h1 : lenN l = n) (h2 : hasF l nmCL = b) (h3 : lenS l = s) : Ending.returned (.tuple #[.int .i64 (n : Int), .bool b, .int .i64 (s : Int)]) = .returned (.tuple #[.int .i64 (lenN l : Nat), .bool (hasF l nmCL), .int .i64 (lenS l : Nat)]) := by rw [h1, h2, h3]

set_option maxHeartbeats 8000000 in
set_option maxRecDepth 100000 in
theorem length_any (v : Value) (l : List (Bs × Bs)) (w : World) (hs : IsFlds w v l) (hz : sumF l ≤ 1000000) (hl : l.length ≤ 1048576) :
    Calls Tryd.prog 19 #[v] w (LenPost l w) := by
  have HH : Hid (∀ W, Below w.heap.size w W → Calls Tryd.prog 59 #[v, .string ⟨#[67, 111, 110, 116, 101, 110, 116, 45, 76, 101, 110, 103, 116, 104]⟩] W fun e w' => e = .returned (.bool (hasF l nmCL)) ∧ Below W.heap.size W w') := fun W hb => has_any v l nmCL W (isFlds_below hs hb) hz (by decide) hl
  have HLs : Hid (∀ W, Below w.heap.size w W → Calls Tryd.prog 37 #[v, .string ⟨#[67, 111, 110, 116, 101, 110, 116, 45, 76, 101, 110, 103, 116, 104]⟩] W (ListPost W.heap.size (listF l nmCL) W)) := fun W hb => flist_any v l nmCL W (isFlds_below hs hb) hz (by decide) hl
  unfold ListPost at HLs
  have HBad := Lib.hid (len_bad l)
  have HGood := Lib.hid (len_good l)
  have HEmp := Lib.hid (len_empty l)
  have HNone := Lib.hid (lenS_none l)
  have HPc := Lib.hid (fun p hp => Nat.le_trans (listF_piece nmCL l p hp) hz)
  have HHas := Lib.hid (list_has l nmCL)
  have hln := listF_len nmCL l
  have hlp : (listF l nmCL).length ≤ 1000000 := by omega
  have HRet := Lib.hid (len_ret l)
  unfold LenPost
  obtain ⟨a, cap, rfl⟩ : ∃ a cap, v = .slice a l.length cap := by obtain ⟨a, c, h, -⟩ := hs; exact ⟨a, c, h⟩
  clear hs hz hln
  generalize listF l nmCL = P at *
  go_enter Tryd.func19, Tryd.ntmps19
  go_wp2_with fail
  refine (HH.out _ (Below.refl _ _)).mono ?_
  rintro e w1 ⟨rfl, hb⟩
  have HB1 := Lib.hid hb
  clear hb
  go_wp2_with fail
  refine (HLs.out _ HB1.out).mono ?_
  rintro e w2 ⟨v2, rfl, ho, hb⟩
  have HB2 := Lib.hid (HB1.out.trans (hb.mono HB1.out.size))
  have HS := Lib.hid (isStrs_own ho)
  have HLt := Lib.hid (fun k e => (ho.lt k e).2)
  obtain ⟨a1, c1, rfl⟩ : ∃ a c, v2 = .slice a P.length c := by obtain ⟨a, c, h, -⟩ := isStrs_own ho; exact ⟨a, c, h⟩
  clear ho hb
  go_wp2_with fail
  go_loopw [4, 5, 15] (fun vs vf vi wr => ∃ i : Nat, i ≤ P.length ∧ vs = .int .i64 0 ∧ vi = .int .i64 i ∧ Hid (Below w2.heap.size w2 wr) ∧ ((i = 0 ∧ vf = .pointer none) ∨ (0 < i ∧ ∃ b, vf = .pointer (some ⟨b, 0, none⟩) ∧ Hid (b < wr.heap.size) ∧ Hid (wr.cell? ⟨b, 0, none⟩ = some (.int .i64 (firstN P : Nat))))) ∧ Hid (∀ p ∈ P.take i, isNum (firstN P) p = true)) (fun _ _ vi _ => P.length - (RowKit.intOf vi).toNat)
  case atStart => exact ⟨0, Nat.zero_le _, rfl, rfl, Below.refl _ _, .inl ⟨rfl, rfl⟩, fun p hp => by simp at hp⟩
  case round =>
    obtain ⟨i, hi, rfl, rfl, HB, hf, HA⟩ := hrel
    rename World => W
    by_cases hlt : i < P.length
    · obtain ⟨a', c', e', hc⟩ := isStrs_later HS.out HB.out HLt.out
      injection e' with e1 _ e2
      subst e1 e2
      obtain ⟨bx, o, rfl, hc⟩ := hc i (P.getD i []) (by simp [List.getD, hlt])
      have hmem : P.getD i [] ∈ P := by simp [List.getD, hlt]
      have hm := HPc.out (P.getD i []) hmem
      have htk : P.take (i + 1) = P.take i ++ [P.getD i []] := by rw [List.take_succ_eq_append_getElem hlt]; simp [List.getD, hlt]
      have hfirst : i = 0 → firstN P = (numL (P.getD i [])).1 := by
        intro e; subst e
        unfold firstN
        cases P with
        | nil => simp at hlt
        | cons p t => rfl
      have HBd := Lib.hid (HBad.out (P.getD i []) hmem)
      have HTK := Lib.hid htk
      have HFi := Lib.hid hfirst
      have hxl := numL_le (P.getD i [])
      clear htk hmem hfirst
      generalize P.getD i [] = x at *
      have hxz := size_mkS x
      have hnum := fun W : World => number_any (mkS x) W (by omega)
      rw [bs_mkS] at hnum
      have HNum := Lib.hid hnum
      have hisn : isNum (firstN P) x = (decide ((numL x).2 = 0) && decide ((numL x).1 = firstN P)) := rfl
      have HIs := Lib.hid hisn
      have g0 : (0 : Int) ≤ (i : Int) := by omega
      have g1 : (i : Int) < (P.length : Int) := by omega
      clear hnum hxz hisn
      generalize numL x = q at *
      obtain ⟨n, k⟩ := q
      simp only at hxl HNum HIs HFi
      have HN0 := Lib.hid (One.new W 2 (.int .i64 (n : Int)))
      have HBa := Lib.hid (HB.out.alloc HB.out.size (Obj.cells #[.int .i64 (n : Int)] 2))
      have hal : ∀ (b : Nat) (u : Value), b < W.heap.size → W.cell? ⟨b, 0, none⟩ = some u → (W.alloc (Obj.cells #[.int .i64 (n : Int)] 2)).cell? ⟨b, 0, none⟩ = some u := fun b u hb hu => by
        rw [World.cell?_alloc_lt _ _ _ (show (⟨b, 0, none⟩ : Addr).block < W.heap.size from hb)]; exact hu
      have HAl := Lib.hid hal
      have hgl : W.heap.size < (W.alloc (Obj.cells #[.int .i64 (n : Int)] 2)).heap.size := by simp
      clear hal
      by_cases hk : k = 0
      · have ek : ((k : Int) != 0) = false := by rw [hk]; rfl
        rcases hf with ⟨hi0, rfl⟩ | ⟨hip, b, rfl, HLo, HOne⟩
        · have hF : firstN P = n := HFi.out hi0
          have hyes : isNum (firstN P) x = true := by rw [HIs.out, hF, hk]; simp
          have HA2 : Hid (∀ p ∈ P.take (i + 1), isNum (firstN P) p = true) := by
            intro p hp
            rw [HTK.out, List.mem_append, List.mem_singleton] at hp
            rcases hp with hp | rfl
            · exact HA.out p hp
            · exact hyes
          have HF := Lib.hid hF
          clear hk hyes hF hi0
          go_wp2_with fail
          refine (HNum.out _).mono ?_
          rintro e w' ⟨rfl, rfl⟩
          have q0 := HN0.out.c0
          go_wp2_with fail
          generalize W.alloc (Obj.cells #[.int .i64 (n : Int)] 2) = W5 at *
          generalize W.heap.size = g at *
          go_quiet (fail)
          go_wp2_with fail
          refine ⟨⟨i + 1, hlt, rfl, by go_num, below_some_draws HBa.out _, .inr ⟨by omega, g, rfl, hgl, ?_⟩, HA2⟩, by simp [RowKit.intOf]; omega⟩
          show _ = _
          rw [HF.out]; exact q0
        · by_cases hn : n = firstN P
          · have hyes : isNum (firstN P) x = true := by rw [HIs.out, hn, hk]; simp
            have HA2 : Hid (∀ p ∈ P.take (i + 1), isNum (firstN P) p = true) := by
              intro p hp
              rw [HTK.out, List.mem_append, List.mem_singleton] at hp
              rcases hp with hp | rfl
              · exact HA.out p hp
              · exact hyes
            have en : ((n : Int) != (firstN P : Int)) = false := by rw [hn]; simp
            have qb := HAl.out b _ HLo.out HOne.out
            have hbl : Hid (b < (W.alloc (Obj.cells #[.int .i64 (n : Int)] 2)).heap.size) := Nat.lt_trans HLo.out hgl
            clear hk hyes hn
            generalize firstN P = F at *
            go_wp2_with fail
            refine (HNum.out _).mono ?_
            rintro e w' ⟨rfl, rfl⟩
            have q0 := HN0.out.c0
            go_wp2_with fail
            generalize W.alloc (Obj.cells #[.int .i64 (n : Int)] 2) = W5 at *
            generalize W.heap.size = g at *
            go_quiet (fail)
            go_wp2_with fail
            exact ⟨⟨i + 1, hlt, rfl, by go_num, below_some_draws HBa.out _, .inr ⟨by omega, b, rfl, hbl, qb⟩, HA2⟩, by simp [RowKit.intOf]; omega⟩
          · have hno : isNum (firstN P) x = false := by rw [HIs.out]; simp [hn]
            obtain ⟨b1, b2, b3⟩ := HBd.out hno
            have HR := Lib.hid (HRet.out 0 _ 400 b1 rfl b3)
            have HBf := Lib.hid (HB2.out.trans (HBa.out.mono HB2.out.size))
            have en : ((n : Int) != (firstN P : Int)) = true := by rw [bne_iff_ne]; omega
            have qb := HAl.out b _ HLo.out HOne.out
            clear hk hn hno b1 b2 b3
            generalize firstN P = F at *
            go_wp2_with fail
            refine (HNum.out _).mono ?_
            rintro e w' ⟨rfl, rfl⟩
            have q0 := HN0.out.c0
            go_wp2_with fail
            generalize W.alloc (Obj.cells #[.int .i64 (n : Int)] 2) = W5 at *
            generalize W.heap.size = g at *
            go_quiet (fail)
            go_wp2_with fail
            try simp only [Exit.inBlock, Exit.then]
            refine bodyPost_ret (results_tmp3' rfl _ _ _) rfl ?_
            exact ⟨HR.out, below_some_draws HBf.out _⟩
      · have ek : ((k : Int) != 0) = true := by rw [bne_iff_ne]; omega
        have hno : isNum (firstN P) x = false := by rw [HIs.out]; simp [hk]
        obtain ⟨b1, b2, b3⟩ := HBd.out hno
        have HR := Lib.hid (HRet.out 0 _ 400 b1 rfl b3)
        have HBf := Lib.hid (HB2.out.trans (HBa.out.mono HB2.out.size))
        clear hk hno b1 b2 b3
        rcases hf with ⟨hi0, rfl⟩ | ⟨hip, b, rfl, HLo, HOne⟩
        · clear hi0
          go_wp2_with fail
          refine (HNum.out _).mono ?_
          rintro e w' ⟨rfl, rfl⟩
          have q0 := HN0.out.c0
          go_wp2_with fail
          generalize W.alloc (Obj.cells #[.int .i64 (n : Int)] 2) = W5 at *
          generalize W.heap.size = g at *
          go_quiet (fail)
          go_wp2_with fail
          try simp only [Exit.inBlock, Exit.then]
          refine bodyPost_ret (results_tmp3' rfl _ _ _) rfl ?_
          exact ⟨HR.out, below_some_draws HBf.out _⟩
        · have qb := HAl.out b _ HLo.out HOne.out
          generalize firstN P = F at *
          go_wp2_with fail
          refine (HNum.out _).mono ?_
          rintro e w' ⟨rfl, rfl⟩
          have q0 := HN0.out.c0
          go_wp2_with fail
          generalize W.alloc (Obj.cells #[.int .i64 (n : Int)] 2) = W5 at *
          generalize W.heap.size = g at *
          go_quiet (fail)
          go_wp2_with fail
          try simp only [Exit.inBlock, Exit.then]
          refine bodyPost_ret (results_tmp3' rfl _ _ _) rfl ?_
          exact ⟨HR.out, below_some_draws HBf.out _⟩
    · have hil : P.take i = P := List.take_of_length_le (by omega)
      have hipl : i = P.length := by omega
      rw [hil] at HA
      have HBf := Lib.hid (HB2.out.trans (HB.out.mono HB2.out.size))
      rcases hf with ⟨hi0, rfl⟩ | ⟨hip, b, rfl, HLo, HOne⟩
      · have hP : P = [] := List.eq_nil_of_length_eq_zero (by omega)
        cases hh : hasF l nmCL
        · obtain ⟨b1, b2⟩ := HNone.out hh
          have HR := Lib.hid (HRet.out 0 false 0 b2 hh b1)
          rw [hh] at HR
          clear hil hipl hP hi0 b1 b2
          go_wp2_with fail
          try simp only [Exit.inBlock, Exit.then]
          refine bodyPost_ret (results_tmp3' rfl _ _ _) rfl ?_
          exact ⟨by rw [hh]; exact HR.out, HBf.out⟩
        · obtain ⟨b1, b2⟩ := HEmp.out hP hh
          have HR := Lib.hid (HRet.out 0 true 400 b1 hh b2)
          rw [hh] at HR
          clear hil hipl hP hi0 b1 b2
          go_wp2_with fail
          try simp only [Exit.inBlock, Exit.then]
          refine bodyPost_ret (results_tmp3' rfl _ _ _) rfl ?_
          exact ⟨by rw [hh]; exact HR.out, HBf.out⟩
      · have hP : P ≠ [] := fun e => by rw [e] at hipl; simp at hipl; omega
        obtain ⟨b1, b2, b3⟩ := HGood.out hP HA.out
        have HR := Lib.hid (HRet.out _ _ 0 b1 rfl b3)
        have q0 := HOne.out
        have hFl : firstN P ≤ 9007199254740991 := numL_le _
        clear hil hipl hP b1 b2 b3
        generalize firstN P = F at *
        go_wp2_with fail
        try simp only [Exit.inBlock, Exit.then]
        refine bodyPost_ret (results_tmp3' rfl _ _ _) rfl ?_
        exact ⟨HR.out, HBf.out⟩
end Tk
end Go.Proofs.YtapnlopeipdjmaaDoor
