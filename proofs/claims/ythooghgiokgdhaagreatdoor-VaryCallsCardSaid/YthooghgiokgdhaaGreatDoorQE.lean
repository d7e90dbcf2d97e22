/- VaA AppW VaB, put together. -/
import Derived.Test.YthooghgiokgdhaaGreatDoorQD
import Derived.RangeFuncNested
import Derived.RangeFuncBound
import Derived.RangeFuncCalls
import Derived.RangeFuncLeaves
import Derived.RangeFuncBox
import Derived.OwnWalkIn
import Derived.TacticsInMore
import Derived.LoopNIn
import Derived.LoopIn
import Derived.WalkKit
import Derived.Lib.AppendStr
import Derived.Test.YthooghgiokgdhaaGreatDoorQB
import Derived.Maps.AppendAt
namespace Go.Proofs.YthooghgiokgdhaaGreatDoor
open Go.RowKit
namespace Tk

attribute [local go_sem] Oper.semAt_some

/-- the tables of unicode/utf8 lie as they are laid -/
def Utf (w : World) : Prop := Lib.Utf8Tabs 4 5 w
theorem Utf.later {w w' : World} (h : Utf w) (hb : Below w.heap.size w w') : Utf w' := Utf8Tabs_below h hb

def whR (r : Nat) : Bool := decide (r = 32) || decide (r = 9)
set_option maxHeartbeats 1000000 in
theorem white_any (r : Nat) (w : World) : Calls Tryz.prog 187 #[.int .i32 r] w fun e w' => e = .returned (.bool (whR r)) ∧ w' = w := by
  unfold whR
  by_cases h1 : r = 32
  · subst h1
    go_enter Tryz.func187, Tryz.ntmps187
    go_wp2_with fail
    go_ret
    exact ⟨rfl, rfl⟩
  · have e1 : ((r : Int) == 32) = false := by rw [beq_eq_false_iff_ne]; omega
    by_cases h2 : r = 9
    · subst h2
      go_enter Tryz.func187, Tryz.ntmps187
      go_wp2_with fail
      go_ret
      exact ⟨rfl, rfl⟩
    · have e2 : ((r : Int) == 9) = false := by rw [beq_eq_false_iff_ne]; omega
      rw [decide_eq_false h1, decide_eq_false h2]
      clear h1 h2
      go_enter Tryz.func187, Tryz.ntmps187
      go_wp2_with fail
      go_ret
      exact ⟨rfl, rfl⟩

theorem tailS (s : Bs) (i : Nat) : (mkS s).extract i (mkS s).size = mkS (s.drop i) := by
  rw [extract_mkS, bs_mkS, size_mkS, List.take_of_length_le (by rw [List.length_drop]; omega)]
theorem dec_any (s : Bs) (i : Nat) (hi : i < s.length) (w : World) (hT : Utf w) :
    Calls Tryz.prog 243 #[.string ((mkS s).extract i (mkS s).size)] w fun e w' => e = .returned (.tuple #[.int .i32 (Utf8.decode (mkS (s.drop i)) 0).1, .int .i64 (Utf8.decode (mkS (s.drop i)) 0).2]) ∧ Below w.heap.size w w' := by
  have h := Tryz.utf8_DecodeRuneInString (mkS (s.drop i)) w hT
  rw [tailS]
  have e : Lib.decodeGo (mkS (s.drop i)) = Utf8.decode (mkS (s.drop i)) 0 := by
    unfold Lib.decodeGo
    rw [if_neg (by rw [size_mkS, List.length_drop]; omega)]
  rw [e] at h
  exact h

/-- what the iterator reads: the text, the test, the tables -/
def FfsS (gs gf : Nat) (s : Bs) (W : World) : Prop := Bx W gs 9 #[.string (mkS s)] ∧ Bx W gf 217 #[.func (.func 187) #[] #[]] ∧ Utf W
def strE (x : Bs) : Array Value := #[.string (mkS x)]

/-- where the walk over a text stands -/
def At (s : Bs) (i : Nat) (st : Int) (pre : List Bs) : Prop := (st = -1 ∧ Fl s i pre []) ∨ ∃ k : Nat, st = (k : Int) ∧ k < i ∧ Fl s i pre ((s.drop k).take (i - k))
theorem cur_ne {s : Bs} {i k : Nat} (hk : k < i) (hi : i ≤ s.length) : (s.drop k).take (i - k) ≠ [] := by
  intro e
  have := congrArg List.length e
  rw [List.length_take, List.length_drop, List.length_nil] at this
  omega
theorem cur_step (s : Bs) (k i n : Nat) (hk : k ≤ i) : (s.drop k).take (i - k) ++ (s.drop i).take n = (s.drop k).take (i + n - k) := by
  rw [show i + n - k = (i - k) + n by omega, List.take_add, List.drop_drop, show k + (i - k) = i by omega]

set_option maxHeartbeats 8000000 in
set_option maxRecDepth 100000 in
theorem ffs1_hands (gs gf : Nat) (s : Bs) (hs : s.length ≤ 1099511627776) :
    HandsM Tryz.prog 242 #[.pointer (some ⟨gs, 0, none⟩), .pointer (some ⟨gf, 0, none⟩)] strE (fldL s) (FfsS gs gf s) := by
  intro l J M W hK hJ hS hY h0
  have hc := hS _ _ _ h0
  have HK := Lib.hid hK
  have HJ := Lib.hid hJ
  have HS := Lib.hid hS
  have HY := Lib.hid hY
  have H0 := Lib.hid h0
  have hz := size_mkS s
  have HZ := Lib.hid hz
  clear hK hJ hS hY h0 hc
  refine (callsIn_wide (n := 5)).1 ?_
  refine callsIn_of_wp Tryz.func242 rfl trivial ?_ rfl
  simp only [Tryz.ntmps242, List.size_toArray, List.length_cons, List.length_nil, Nat.reduceAdd, Nat.reduceSub, Array.replicate_succ, Array.replicate_zero, List.push_toArray, List.append_toArray, List.nil_append, List.cons_append]
  clear hz
  gi_wp2
  gi_loopw [4, 5] (fun vs vi wr => ∃ (i : Nat) (st : Int) (pre : List Bs), i ≤ s.length ∧ vi = .int .i64 i ∧ vs = .int .i64 st ∧ Hid (At s i st pre) ∧ Hid (∃ N, J pre N wr)) (fun _ vi _ => s.length - (RowKit.intOf vi).toNat)
  case atStart => exact ⟨0, -1, [], Nat.zero_le _, rfl, rfl, .inl ⟨rfl, Fl.start s⟩, ⟨M, H0.out⟩⟩
  case round =>
    obtain ⟨i, st, pre, hi, rfl, rfl, HA, HJi⟩ := hrel
    by_cases hlt : i < s.length
    · obtain ⟨N, hJi⟩ := HJi.out
      obtain ⟨hx, hf, hu⟩ := HS.out _ _ _ hJi
      have c0 := hx.cell 0 _ rfl
      have HD := dec_any s i hlt wr hu
      have HJ0 := Lib.hid hJi
      have HJB := Lib.hid (fun (w3 : World) (N2 : Nat → Prop) (s2 : List Bs) (w4 : World) (h1 : J s2 N2 w3) (h2 : Below w3.heap.size w3 w4) => HJ.out s2 N2 w3 w4 h1 (Mine.below h2))
      have g0 : (0 : Int) ≤ (i : Int) := by omega
      have g1 : (i : Int) < ((mkS s).size : Int) := by rw [HZ.out]; omega
      have HLt : Hid (i < s.length) := hlt
      clear hx hf hu hJi HJi hi hlt
      by_cases hw : whV (s.getD i 0) = true
      · rw [dec_white s i hw] at HD
        have hr : whR (s.getD i 0).toNat = true := by unfold whR; rw [← whV_toNat]; exact hw
        have HW := fun W1 : World => white_any (s.getD i 0).toNat W1
        rw [hr] at HW
        have HDc : Hid (CallsIn Fence.wide 4 Tryz.prog _ _ wr _) := callsIn_wide.2 HD
        have HWc : Hid (∀ W1 : World, CallsIn Fence.wide 4 Tryz.prog _ _ W1 _) := fun W1 => callsIn_wide.2 (HW W1)
        have HWV := Lib.hid hw
        clear HD HW hr hw
        generalize (s.getD i 0).toNat = r at *
        have hwA : IntKind.i64.wrap ((i : Int) + 1) = ((i + 1 : Nat) : Int) := by rw [IntWalk.i64_in _ (by have := HLt.out; omega)]; omega
        rcases HA.out with ⟨rfl, hfl⟩ | ⟨k, rfl, hki, hfl⟩
        · have HF2 := Lib.hid (hfl.white0 HLt.out HWV.out)
          clear HA hfl
          gi_wp2_with fail
          refine ⟨trivial, HDc.out.mono ?_⟩
          rintro e w1 ⟨rfl, hb1⟩
          have hJ1 := HJB.out _ _ _ _ HJ0.out hb1
          obtain ⟨hx1, hf1, -⟩ := HS.out _ _ _ hJ1
          have c1 := hf1.cell 0 _ rfl
          have HJ1 := Lib.hid hJ1
          clear hb1 hJ1 hx1 hf1
          gi_wp2_with fail
          refine ⟨trivial, (HWc.out _).mono ?_⟩
          rintro e w2 ⟨rfl, rfl⟩
          gi_wp2_with fail
          refine ⟨⟨i + 1, -1, pre, by have := HLt.out; omega, by go_num, rfl, .inl ⟨rfl, HF2.out⟩, ⟨N, HJ1.out⟩⟩, ?_⟩
          simp [RowKit.intOf]; have := HLt.out; omega
        · have hne := cur_ne hki (Nat.le_of_lt HLt.out)
          have hf2 := hfl.white1 hne HLt.out HWV.out
          have HF2 := Lib.hid hf2
          have HPr := Lib.hid hf2.pre
          have hcut : (mkS s).extract k i = mkS ((s.drop k).take (i - k)) := by rw [extract_mkS, bs_mkS]
          have HCut := Lib.hid hcut
          have k0 : (0 : Int) ≤ (k : Int) := by omega
          have k1 : (k : Int) ≤ (i : Int) := by omega
          have g2 : (i : Int) ≤ ((mkS s).size : Int) := by omega
          clear HA hfl hf2 hcut hne hki
          generalize (s.drop k).take (i - k) = cur at *
          gi_wp2_with fail
          refine ⟨trivial, HDc.out.mono ?_⟩
          rintro e w1 ⟨rfl, hb1⟩
          have hJ1 := HJB.out _ _ _ _ HJ0.out hb1
          obtain ⟨hx1, hf1, -⟩ := HS.out _ _ _ hJ1
          have c1 := hf1.cell 0 _ rfl
          have c2 := hx1.cell 0 _ rfl
          have HJ1 := Lib.hid hJ1
          clear hb1 hJ1 hx1 hf1
          gi_wp2_with fail
          refine ⟨trivial, (HWc.out _).mono ?_⟩
          rintro e w2 ⟨rfl, rfl⟩
          obtain ⟨fn, tm, asg, bd, hy, hR⟩ := (HY.out _ _ N w2 HJ1.out HPr.out).at (m := 4)
          unfold strE at hy
          rw [← HCut.out] at hy
          gi_wp2_with fail
          refine hR.mono ?_
          rintro e w7 ⟨rfl, N7, hJ7, hT7⟩
          have HJ7 := Lib.hid hJ7
          clear hJ7 hT7 hy hR
          gi_wp2_with fail
          refine ⟨⟨i + 1, -1, pre ++ [cur], by have := HLt.out; omega, by go_num, rfl, .inl ⟨rfl, HF2.out⟩, ⟨N7, HJ7.out⟩⟩, ?_⟩
          simp [RowKit.intOf]; have := HLt.out; omega
      · rw [Bool.not_eq_true] at hw
        obtain ⟨d1, d2, d3, d4, d5⟩ := dec_plain s i HLt.out hw
        generalize (Utf8.decode (mkS (s.drop i)) 0).1 = r at *
        generalize (Utf8.decode (mkS (s.drop i)) 0).2 = n at *
        have hr : whR r = false := by unfold whR; rw [decide_eq_false d1, decide_eq_false d2]; rfl
        have HW := fun W1 : World => white_any r W1
        rw [hr] at HW
        have HDc : Hid (CallsIn Fence.wide 4 Tryz.prog _ _ wr _) := callsIn_wide.2 HD
        have HWc : Hid (∀ W1 : World, CallsIn Fence.wide 4 Tryz.prog _ _ W1 _) := fun W1 => callsIn_wide.2 (HW W1)
        have hwA : IntKind.i64.wrap ((i : Int) + (n : Int)) = ((i + n : Nat) : Int) := by rw [IntWalk.i64_in _ (by omega)]; omega
        have HIN : Hid (i + n ≤ s.length ∧ i < i + n) := ⟨d4, by omega⟩
        have hfin : Hid (∃ k : Nat, (st = -1 → k = i) ∧ (∀ m : Nat, st = (m : Int) → k = m) ∧ k < i + n ∧ Fl s (i + n) pre ((s.drop k).take (i + n - k))) := by
          rcases HA.out with ⟨rfl, hfl⟩ | ⟨k, rfl, hki, hfl⟩
          · refine ⟨i, fun _ => rfl, fun m hm => by omega, by omega, ?_⟩
            have h2 := hfl.plain n d4 d5
            rw [List.nil_append] at h2
            rw [show i + n - i = n by omega]
            exact h2
          · refine ⟨k, fun h => by omega, fun m hm => by omega, by omega, ?_⟩
            have h2 := hfl.plain n d4 d5
            rw [cur_step s k i n (by omega)] at h2
            exact h2
        generalize hKe : i + n = K at *
        clear hKe HD HW hr hw d1 d2 d3 d4 d5
        rcases HA.out with ⟨rfl, -⟩ | ⟨k, rfl, hki, -⟩
        · obtain ⟨k, hk1, -, hk2, hk3⟩ := hfin.out
          obtain rfl := hk1 rfl
          have HE := Lib.hid (And.intro hk2 hk3)
          clear HA hk1 hk2 hk3 hfin
          gi_wp2_with fail
          refine ⟨trivial, HDc.out.mono ?_⟩
          rintro e w1 ⟨rfl, hb1⟩
          have hJ1 := HJB.out _ _ _ _ HJ0.out hb1
          obtain ⟨hx1, hf1, -⟩ := HS.out _ _ _ hJ1
          have c1 := hf1.cell 0 _ rfl
          have HJ1 := Lib.hid hJ1
          clear hb1 hJ1 hx1 hf1
          gi_wp2_with fail
          refine ⟨trivial, (HWc.out _).mono ?_⟩
          rintro e w2 ⟨rfl, rfl⟩
          gi_wp2_with fail
          refine ⟨⟨K, (k : Int), pre, HIN.out.1, rfl, rfl, .inr ⟨k, rfl, HE.out.1, HE.out.2⟩, ⟨N, HJ1.out⟩⟩, ?_⟩
          simp [RowKit.intOf]; have := HLt.out; have := HIN.out.2; omega
        · obtain ⟨k', -, hk1, hk2, hk3⟩ := hfin.out
          obtain rfl := hk1 k rfl
          have HE := Lib.hid (And.intro hk2 hk3)
          have HKI := Lib.hid hki
          have k0 : (0 : Int) ≤ (k' : Int) := by omega
          clear HA hk1 hk2 hk3 hfin hki
          gi_wp2_with fail
          refine ⟨trivial, HDc.out.mono ?_⟩
          rintro e w1 ⟨rfl, hb1⟩
          have hJ1 := HJB.out _ _ _ _ HJ0.out hb1
          obtain ⟨hx1, hf1, -⟩ := HS.out _ _ _ hJ1
          have c1 := hf1.cell 0 _ rfl
          have HJ1 := Lib.hid hJ1
          clear hb1 hJ1 hx1 hf1
          gi_wp2_with fail
          refine ⟨trivial, (HWc.out _).mono ?_⟩
          rintro e w2 ⟨rfl, rfl⟩
          gi_wp2_with fail
          refine ⟨⟨K, (k' : Int), pre, HIN.out.1, rfl, rfl, .inr ⟨k', rfl, HE.out.1, HE.out.2⟩, ⟨N, HJ1.out⟩⟩, ?_⟩
          simp [RowKit.intOf]; have := HLt.out; have := HIN.out.2; omega
    · obtain ⟨N, hJi⟩ := HJi.out
      obtain ⟨hx, -, -⟩ := HS.out _ _ _ hJi
      have c0 := hx.cell 0 _ rfl
      obtain rfl : i = s.length := by omega
      have HJ0 := Lib.hid hJi
      have g1 : ¬ ((s.length : Int) < ((mkS s).size : Int)) := by rw [HZ.out]; omega
      clear hx hJi HJi hi hlt
      rcases HA.out with ⟨rfl, hfl⟩ | ⟨k, rfl, hki, hfl⟩
      · have hl := hfl.last
        rw [if_pos rfl, List.append_nil] at hl
        have HJ1 : Hid (J (fldL s) N wr) := by show J (fldL s) N wr; rw [hl]; exact HJ0.out
        clear HA hfl hl
        gi_wp2_with fail
        go_end0
        exact ⟨⟨_, rfl⟩, N, HJ1.out⟩
      · have hne := cur_ne hki (Nat.le_refl _)
        have hl := hfl.last
        rw [if_neg hne] at hl
        have hcut : (mkS s).extract k (mkS s).size = mkS ((s.drop k).take (s.length - k)) := by rw [extract_mkS, bs_mkS, HZ.out]
        have HL := Lib.hid hl
        have k0 : (0 : Int) ≤ (k : Int) := by omega
        have k1 : (k : Int) ≤ ((mkS s).size : Int) := by rw [HZ.out]; omega
        clear HA hfl hl hne hki
        generalize (s.drop k).take (s.length - k) = cur at *
        obtain ⟨fn, tm, asg, bd, hy, hR⟩ := (HY.out _ _ N wr HJ0.out (by rw [HL.out]; exact List.prefix_refl _)).at (m := 4)
        unfold strE at hy
        rw [← hcut] at hy
        clear hcut
        gi_wp2_with fail
        refine hR.mono ?_
        rintro e w7 ⟨rfl, N7, hJ7, hT7⟩
        have HJ7 : Hid (J (fldL s) N7 w7) := by show J (fldL s) N7 w7; rw [HL.out]; exact hJ7
        clear hJ7 hT7 hy hR
        gi_wp2_with fail
        go_end0
        exact ⟨⟨_, rfl⟩, N7, HJ7.out⟩
end Tk
end Go.Proofs.YthooghgiokgdhaaGreatDoor
namespace Go.Proofs.YthooghgiokgdhaaGreatDoor
open Go.RowKit
namespace Tk

theorem app_where {P : Program} (w : World) (base : Nat) (t u ty e : TypeId) (i : TypeInfo) (ht : P.underlying t = some (.slice e)) (hu : P.underlying u = some .string) (hi : P.info? e = some i) (hz : i.zero = some (.int .u8 0))
    (hsize : i.size = 1) (hby : i.bytes = 1) (v : Value) (n : Nat) (xs : List Value) (hown : w.ownsRow base e 1 v n xs) (s : ByteArray)
    (h63 : n + s.size ≤ maxLen) (hbytes : n + s.size ≤ 140737488355328) (v' : Value) (w' : World) (hr : (Builtin.append_ #[t, u] ty #[v, .string s]).run P w = .ok v' w') :
    v'.ownBlock = v.ownBlock ∨ v'.ownBlock = some w.heap.size := by
  have hsmall : n + s.size ≤ 9223372036854775807 := by simp only [maxLen] at h63; omega
  have hxl : xs.length = n := by simpa using hown.1
  rcases hown.2 with ⟨rfl, rfl⟩ | ⟨g, cap, cur, rfl, hbg, hg, hnc, hcm, hcs, htake⟩
  · by_cases hm : s.size = 0
    · left
      have hf := Lib.run_firstCells_string (P := P) w 1 s
      rw [hm] at hf
      simp [Builtin.append_, run_underlying ht, run_underlying hu, sizeOf, typeInfo, hi, hsize, Builtin.lenOf, hm, hf] at hr
      rw [← hr.1]
    · right
      have h := run_append_nil_string (P := P) w t u ty e i (.int .u8 0) ht hu hi hz s (by omega) (by omega) (by rw [hby]; omega)
      rw [h] at hr
      injection hr with h1 h2
      rw [← h1]; rfl
  · by_cases hroom : n + s.size ≤ cap
    · left
      have hcs' : cur.size = cap := by simpa using hcs
      have h := Lib.run_append_room_string (P := P) (w := w) t u ty e i ht hu hi hsize g n cap cur hg s hroom (by omega)
      rw [h] at hr
      injection hr with h1 h2
      rw [← h1]; rfl
    · right
      have holds : ∀ j u, xs[j]? = some u → w.cell? ((⟨g, 0, none⟩ : Addr).add j) = some u := hown.cells (g := g) rfl
      have h := Lib.run_append_grow_string (P := P) (w := w) t u ty e i (.int .u8 0) ht hu hi hz ⟨g, 0, none⟩ n cap xs (by rw [hsize]; simpa using hxl) holds s (by omega) (by omega) (by rw [hby]; exact growslice_fits (by omega) (by omega))
      rw [h] at hr
      injection hr with h1 h2
      rw [← h1]; rfl

theorem wpList_append_atS {P : Program} (w : World) {ops : Array Oper} {rest : List Oper} {o : Oper} {a : Act} {Q : Exit → Act → World → Prop} (hgd : o.guard = none) (sl x : Operand) (t u : TypeId)
    (ho : o.op = .call { callee := .builtin .append, args := #[sl, x], argTypes := #[t, u] })
    (base : Nat) (e : TypeId) (i : TypeInfo) (ht : P.underlying t = some (.slice e)) (hu : P.underlying u = some .string) (hi : P.info? e = some i) (hz : i.zero = some (.int .u8 0))
    (hsize : i.size = 1) (hby : i.bytes = 1)
    (v : Value) (n : Nat) (xs : List Value) (hs : a.eval sl = v) (hown : w.ownsRow base e 1 v n xs) (s : ByteArray) (hx : a.eval x = .string s)
    (h63 : n + s.size ≤ maxLen) (hbytes : n + s.size ≤ 140737488355328) (hbase : base ≤ w.heap.size)
    (h : ∀ v' w', w'.ownsRow base e 1 v' (n + s.size) (xs ++ Lib.strCells s) → w.grownBy w' v.ownBlock → (v'.ownBlock = v.ownBlock ∨ v'.ownBlock = some w.heap.size) → wpList P ops Q rest (a.put o.dst v') w') : wpList P ops Q (o :: rest) a w := by
  refine wpList_plain hgd fun K hK => ?_
  obtain ⟨v', w', hr, h2, h3, h4⟩ := Lib.run_append_own_string (P := P) w base t u o.type e i ht hu hi hz hsize hby v n xs hown s h63 hbytes hbase
  have h5 := app_where w base t u o.type e i ht hu hi hz hsize hby v n xs hown s h63 hbytes v' w' hr
  unfold Oper.wp execOp
  simp only [ho, resolve, invoke, builtin, Sem.run_bind, Sem.run_pure, Result.andThen_ok, List.map_toArray, List.map_cons, List.map_nil, hs, hx, hr]
  exact hK _ _ (h v' w' h2 h3 h5)
end Tk
end Go.Proofs.YthooghgiokgdhaaGreatDoor
namespace Go.Proofs.YthooghgiokgdhaaGreatDoor
open Go.RowKit
namespace Tk

/-- block b is a builder that holds l; it and its bytes lie in M -/
structure BM (b : Nat) (l : Bs) (M : Nat → Prop) (W : World) : Prop where
  isb : IsB 0 b l W
  mb : M b
  own : ∀ (p v : Value), W.heap[b]? = some (.cells #[p, v] 110 (0, 0)) → ∀ k, v.ownBlock = some k → M k

theorem isB_row {B b : Nat} {l : Bs} {w : World} (h : IsB B b l w) : ∃ p v, w.heap[b]? = some (.cells #[p, v] 110 (0, 0)) ∧ w.ownsRow B 5 1 v (Lib.byteCells l).length (Lib.byteCells l) := by
  rcases h with h | h
  · obtain ⟨-, v, hb, ho, -⟩ := h; exact ⟨_, v, hb, ho⟩
  · obtain ⟨-, v, hb, ho, -⟩ := h; exact ⟨_, v, hb, ho⟩
theorem BM.lt {b : Nat} {l : Bs} {M : Nat → Prop} {W : World} (h : BM b l M W) : b < W.heap.size := by
  obtain ⟨p, v, hb, -⟩ := isB_row h.isb
  exact (Array.getElem?_eq_some_iff.1 hb).1
theorem BM.mine {b B : Nat} {l : Bs} {M : Nat → Prop} {W W' : World} (h : BM b l M W) (hm : Mine B M W W') : BM b l M W' := by
  obtain ⟨hi, hmb, ho⟩ := h
  have hlt : b < W.heap.size := BM.lt ⟨hi, hmb, ho⟩
  have hbb : W'.heap[b]? = W.heap[b]? := hm.same b hlt (.inr hmb)
  have hrow : ∀ (p v : Value), W.heap[b]? = some (.cells #[p, v] 110 (0, 0)) → ∀ (cs : List Value) (n : Nat), W.ownsRow 0 5 1 v n cs → W'.ownsRow 0 5 1 v n cs := by
    intro p v hb cs n hr
    refine ⟨hr.1, ?_⟩
    rcases hr.2 with hn | ⟨g, cap, cur, hv, hbase, hg, h1, h2, h3, h4⟩
    · exact .inl hn
    · have hgl : g < W.heap.size := (Array.getElem?_eq_some_iff.1 hg).1
      have hmg : M g := ho p v hb g (by rw [hv]; rfl)
      exact .inr ⟨g, cap, cur, hv, hbase, (hm.same g hgl (.inr hmg)).trans hg, h1, h2, h3, h4⟩
  refine ⟨?_, hmb, fun p v hb => ho p v (hbb ▸ hb)⟩
  rcases hi with h | h
  · obtain ⟨h0, v, hb, hr, hne⟩ := h
    exact .inl ⟨h0, v, hbb.trans hb, hrow _ v hb _ _ hr, hne⟩
  · obtain ⟨h0, v, hb, hr, hne⟩ := h
    exact .inr ⟨h0, v, hbb.trans hb, hrow _ v hb _ _ hr, hne⟩
theorem BM.known {b : Nat} {l : Bs} {M : Nat → Prop} {W : World} (h : BM b l M W) : b < W.heap.size := h.lt

theorem two_inj {p v p' v' : Value} {T : TypeId} {fr fr' : Nat × Nat} (h : some (Obj.cells #[p, v] T fr) = some (Obj.cells #[p', v'] T fr')) : v = v' := by
  injection h with h
  injection h with h1
  have h2 := congrArg Array.toList h1
  exact (by simpa using h2 : p = p' ∧ v = v').2

/-- what writing leaves -/
def WrPost (b : Nat) (l : Bs) (M : Nat → Prop) (w w' : World) : Prop := ∃ M', BM b l M' w' ∧ Turns M M' w w' ∧ w'.os = w.os ∧ w'.tape = w.tape ∧ w'.output = w.output ∧ ∀ k, M' k → M k ∨ k < w'.heap.size

theorem wr_end {b : Nat} {l l' : Bs} {M : Nat → Prop} {w w2 : World} {p v p' v' : Value} (hM : BM b l M w) (hlen : w.heap.size ≤ w2.heap.size)
    (hb0 : w.heap[b]? = some (.cells #[p, v] 110 (0, 0))) (h2 : w2.heap[b]? = some (.cells #[p', v'] 110 (0, 0)))
    (hI : IsB 0 b l' w2) (hs : ∀ k, k < w.heap.size → k ≠ b → some k ≠ v.ownBlock → w2.heap[k]? = w.heap[k]?) (hw : v'.ownBlock = v.ownBlock ∨ ∃ z, v'.ownBlock = some z ∧ w.heap.size ≤ z ∧ z < w2.heap.size)
    (he : w2.os = w.os ∧ w2.tape = w.tape ∧ w2.output = w.output) : WrPost b l' M w w2 := by
  refine ⟨fun k => M k ∨ (w.heap.size ≤ k ∧ k < w2.heap.size), ⟨hI, .inl hM.mb, ?_⟩, ⟨hlen, fun k hk hn => hs k hk (fun e => hn (e ▸ hM.mb)) (fun e => hn (hM.own p v hb0 k e.symm)), fun k hk => hk.elim .inl (fun h => .inr h.1)⟩, he.1, he.2.1, he.2.2, fun k hk => hk.elim .inl (fun h => .inr h.2)⟩
  intro p2 v2 hb2 k hk
  have e2 : v2 = v' := two_inj (hb2.symm.trans h2)
  subst e2
  rcases hw with h | ⟨z, h, h3, h4⟩
  · exact .inl (hM.own p v hb0 k (h ▸ hk))
  · rw [h] at hk
    injection hk with hk
    subst hk
    exact .inr ⟨h3, h4⟩

theorem chk_row {b : Nat} {l : Bs} {w w1 : World} {p v : Value} (hb : w.heap[b]? = some (.cells #[p, v] 110 (0, 0))) (h1 : Lib.BuilderAt 110 5 0 b (.pointer (some ⟨b, 0, none⟩)) (Lib.byteCells l) w1)
    (he : w1 = w ∨ w1 = w.setCell ⟨b, 0, none⟩ (.pointer (some ⟨b, 0, none⟩))) : w1.heap[b]? = some (.cells #[.pointer (some ⟨b, 0, none⟩), v] 110 (0, 0)) := by
  obtain ⟨-, v2, hb2, -⟩ := h1
  rcases he with rfl | rfl
  · have e2 : v = v2 := two_inj (hb.symm.trans hb2)
    rw [e2]; exact hb2
  · have h3 := heap_setCell_same w b 0 #[p, v] 110 (.pointer (some ⟨b, 0, none⟩)) hb
    exact h3

theorem check_how (b : Nat) (l : Bs) (w : World) (h : IsB 0 b l w) :
    Calls Tryz.prog 191 #[.pointer (some ⟨b, 0, none⟩)] w fun e w' => e = .returned (.tuple #[]) ∧ Lib.BuilderAt 110 5 0 b (.pointer (some ⟨b, 0, none⟩)) (Lib.byteCells l) w' ∧ (w' = w ∨ w' = w.setCell ⟨b, 0, none⟩ (.pointer (some ⟨b, 0, none⟩))) := by
  rcases h with h | h
  · refine (check_fresh b w h.cell0 h.shape h.frozen0).mono ?_
    rintro e w' ⟨rfl, rfl⟩
    exact ⟨rfl, h.used _, .inr rfl⟩
  · refine (check_used b w h.cell0).mono ?_
    rintro e w' ⟨rfl, rfl⟩
    exact ⟨rfl, h, .inl rfl⟩
theorem set_facts {b : Nat} {w w1 : World} (he : w1 = w ∨ w1 = w.setCell ⟨b, 0, none⟩ (.pointer (some ⟨b, 0, none⟩))) : w1.heap.size = w.heap.size ∧ (∀ k, k ≠ b → w1.heap[k]? = w.heap[k]?) ∧ w1.os = w.os ∧ w1.tape = w.tape ∧ w1.output = w.output := by
  rcases he with rfl | rfl
  · exact ⟨rfl, fun _ _ => rfl, rfl, rfl, rfl⟩
  · exact ⟨World.size_setCell _ _ _, fun k hk => Below.heap_setCell _ _ _ _ hk, rfl, rfl, rfl⟩

set_option maxHeartbeats 2000000 in
set_option maxRecDepth 100000 in
theorem writeStringM (b : Nat) (l : Bs) (M : Nat → Prop) (s : ByteArray) (w : World) (hM : BM b l M w) (hlen : l.length + s.size ≤ 1099511627776) :
    Calls Tryz.prog 124 #[.pointer (some ⟨b, 0, none⟩), .string s] w fun e w' => e = .returned (.tuple #[.int .i64 s.size, .nilIface]) ∧ WrPost b (l ++ bs s) M w w' := by
  obtain ⟨i0, hi, hz0, hz1, hz2⟩ := info_parts byteInf
  have hl : (Lib.byteCells l).length = l.length := by simp [Lib.byteCells]
  obtain ⟨p0, v0, hb0, -⟩ := isB_row hM.isb
  have HM := Lib.hid hM
  have HB0 := Lib.hid hb0
  have hCk := check_how b l w hM.isb
  clear hM hb0
  go_enter Tryz.func124, Tryz.ntmps124
  go_wp2_with fail
  refine hCk.mono ?_
  rintro e w1 ⟨rfl, h1, he1⟩
  have hbk := chk_row HB0.out h1 he1
  obtain ⟨fz, fo, fos, fta, fou⟩ := set_facts he1
  have FO := Lib.hid fo
  have FE := Lib.hid (And.intro fos (And.intro fta fou))
  obtain ⟨hB, v, hbk2, hown, hne⟩ := h1
  have hv : v = v0 := two_inj (hbk2.symm.trans hbk)
  have FZ := Lib.hid fz
  subst hv
  have c0 : w1.cell? ⟨b, 0, none⟩ = some (.pointer (some ⟨b, 0, none⟩)) := by rw [Lib.cell_of_heap hbk]; rfl
  have c1 : w1.cell? ⟨b, 1, none⟩ = some v := by rw [Lib.cell_of_heap hbk]; rfl
  clear he1 fz fo fos fta fou hbk2
  go_wp2_with (at_builtin; refine wpList_append_atS _ rfl _ _ 108 9 rfl 0 5 i0 Tryz.underlying108 Tryz.underlying9 hi hz0 hz1 hz2 _ _ _ rfl hown s rfl ?c3 ?c4 ?c5 ?_)
  case c3 => unfold maxLen; omega
  case c4 => omega
  case c5 => omega
  intro v' w2 hown' hgrow hat
  have hlt : b < w1.heap.size := (Array.getElem?_eq_some_iff.1 hbk).1
  have hb2 : w2.heap[b]? = some (.cells #[.pointer (some ⟨b, 0, none⟩), v] 110 (0, 0)) := by
    rw [hgrow.block b hlt (fun e => hne e.symm)]
    exact hbk
  have d0 : w2.cell? ⟨b, 0, none⟩ = some (.pointer (some ⟨b, 0, none⟩)) := by rw [Lib.cell_of_heap hb2]; rfl
  have d1 : w2.cell? ⟨b, 1, none⟩ = some v := by rw [Lib.cell_of_heap hb2]; rfl
  have f1 : w2.frozen? ⟨b, 1, none⟩ = false := Lib.frozen_of_heap hb2 1
  obtain ⟨ao, n', cap, rfl⟩ : ∃ ao n' cap, v' = .slice ao n' cap := by
    rcases hown'.2 with ⟨hv, _⟩ | ⟨g, cap, cur, hv, _⟩
    · exact ⟨_, _, _, hv⟩
    · exact ⟨_, _, _, hv⟩
  have HG := Lib.hid hgrow
  have HA := Lib.hid hat
  have HO := Lib.hid hown'
  clear hgrow hat hown'
  go_wp2_with fail
  go_ret2
  refine ⟨rfl, ?_⟩
  have hgrow := HG.out
  have fz := FZ.out
  have hsz : w.heap.size ≤ w2.heap.size := by have := hgrow.size; omega
  refine wr_end (p := p0) (v := v) (p' := .pointer (some ⟨b, 0, none⟩)) (v' := .slice ao n' cap) HM.out (by rw [World.size_setCell]; exact hsz) HB0.out (heap_setCell_same w2 b 1 _ 110 _ hb2) (.inr ?_) ?_ ?_ ?_
  · rw [cells_str]
    exact Lib.BuilderAt.put (T := 110) (e := 5) hB hb2 (bs' := Lib.byteCells l ++ Lib.strCells s) (by simpa [hl, Lib.strCells_length] using HO.out) (by decide)
  · intro k hk hkb hkv
    rw [Below.heap_setCell _ _ _ _ hkb, hgrow.block k (by omega) hkv]
    exact FO.out k hkb
  · rcases HA.out with h | h
    · exact .inl h
    · refine .inr ⟨w1.heap.size, h, by omega, ?_⟩
      rw [World.size_setCell]
      exact (HO.out.lt _ h).2
  · exact ⟨hgrow.os.trans FE.out.1, hgrow.tape.trans FE.out.2.1, hgrow.output.trans FE.out.2.2⟩

set_option maxHeartbeats 2000000 in
set_option maxRecDepth 100000 in
theorem writeByteM (b : Nat) (l : Bs) (M : Nat → Prop) (c : UInt8) (w : World) (hM : BM b l M w) (hlen : l.length + 1 ≤ 1099511627776) :
    Calls Tryz.prog 125 #[.pointer (some ⟨b, 0, none⟩), .int .u8 c.toNat] w fun e w' => e = .returned .nilIface ∧ WrPost b (l ++ [c]) M w w' := by
  obtain ⟨i0, hi, hz0, hz1, hz2⟩ := info_parts byteInf
  have hl : (Lib.byteCells l).length = l.length := by simp [Lib.byteCells]
  have hcat : Lib.byteCells (l ++ [c]) = Lib.byteCells l ++ [.int .u8 c.toNat] := by simp [Lib.byteCells]
  obtain ⟨p0, v0, hb0, -⟩ := isB_row hM.isb
  have HM := Lib.hid hM
  have HB0 := Lib.hid hb0
  have hCk := check_how b l w hM.isb
  clear hM hb0
  go_enter Tryz.func125, Tryz.ntmps125
  go_wp2_with fail
  refine hCk.mono ?_
  rintro e w1 ⟨rfl, h1, he1⟩
  have hbk := chk_row HB0.out h1 he1
  obtain ⟨fz, fo, fos, fta, fou⟩ := set_facts he1
  have FO := Lib.hid fo
  have FE := Lib.hid (And.intro fos (And.intro fta fou))
  obtain ⟨hB, v, hbk2, hown, hne⟩ := h1
  have hv : v = v0 := two_inj (hbk2.symm.trans hbk)
  have FZ := Lib.hid fz
  subst hv
  have c0 : w1.cell? ⟨b, 0, none⟩ = some (.pointer (some ⟨b, 0, none⟩)) := by rw [Lib.cell_of_heap hbk]; rfl
  have c1 : w1.cell? ⟨b, 1, none⟩ = some v := by rw [Lib.cell_of_heap hbk]; rfl
  clear he1 fz fo fos fta fou hbk2
  go_wp2_with (at_builtin; refine wpList_append_own_at _ rfl _ _ 108 rfl 0 5 i0 (.int .u8 0) 1 1 Tryz.underlying108 hi hz0 hz1 hz2 rfl (by decide) _ _ _ rfl (hown.alloc _) ⟨w1.heap.size, 0, none⟩ 1 1 [.int .u8 c.toNat] rfl rfl ?c1 ?c2 ?c3 ?c4 ?c5 ?_)
  case c1 =>
    intro j u hj
    match j, hj with
    | 0, hj => simp at hj; subst hj; simp [Addr.add]
  case c2 => intro u hu; simp at hu; subst hu; rfl
  case c3 => unfold maxLen; omega
  case c4 => omega
  case c5 => omega
  intro v' w2 hown' hgrow _ hat
  have hlt : b < w1.heap.size := (Array.getElem?_eq_some_iff.1 hbk).1
  have hb2 : w2.heap[b]? = some (.cells #[.pointer (some ⟨b, 0, none⟩), v] 110 (0, 0)) := by
    rw [hgrow.block b (by simp; omega) (fun e => hne e.symm), Lib.alloc_old w1 _ b hlt]
    exact hbk
  have d0 : w2.cell? ⟨b, 0, none⟩ = some (.pointer (some ⟨b, 0, none⟩)) := by rw [Lib.cell_of_heap hb2]; rfl
  have d1 : w2.cell? ⟨b, 1, none⟩ = some v := by rw [Lib.cell_of_heap hb2]; rfl
  have f1 : w2.frozen? ⟨b, 1, none⟩ = false := Lib.frozen_of_heap hb2 1
  obtain ⟨ao, n', cap, rfl⟩ : ∃ ao n' cap, v' = .slice ao n' cap := by
    rcases hown'.2 with ⟨hv, _⟩ | ⟨g, cap, cur, hv, _⟩
    · exact ⟨_, _, _, hv⟩
    · exact ⟨_, _, _, hv⟩
  have HG := Lib.hid hgrow
  have HA := Lib.hid hat
  have HO := Lib.hid hown'
  clear hgrow hat hown'
  go_wp2_with fail
  go_ret
  refine ⟨rfl, ?_⟩
  have hgrow := HG.out
  have fz := FZ.out
  have hal : (w1.alloc (.cells #[.int .u8 c.toNat] 5)).heap.size = w1.heap.size + 1 := by simp
  have hsz : w1.heap.size + 1 ≤ w2.heap.size := by have := hgrow.size; omega
  refine wr_end (p := p0) (v := v) (p' := .pointer (some ⟨b, 0, none⟩)) (v' := .slice ao n' cap) HM.out (by rw [World.size_setCell]; omega) HB0.out (heap_setCell_same w2 b 1 _ 110 _ hb2) (.inr ?_) ?_ ?_ ?_
  · rw [hcat]
    exact Lib.BuilderAt.put (T := 110) (e := 5) hB hb2 (bs' := Lib.byteCells l ++ [.int .u8 c.toNat]) (by simpa [hl] using HO.out) (by decide)
  · intro k hk hkb hkv
    rw [Below.heap_setCell _ _ _ _ hkb, hgrow.block k (by omega) hkv, Lib.alloc_old w1 _ k (by omega)]
    exact FO.out k hkb
  · rcases HA.out with h | h
    · exact .inl h
    · refine .inr ⟨w1.heap.size + 1, h, by omega, ?_⟩
      rw [World.size_setCell]
      exact (HO.out.lt _ h).2
  · exact ⟨hgrow.os.trans FE.out.1, hgrow.tape.trans FE.out.2.1, hgrow.output.trans FE.out.2.2⟩

theorem lenM (b : Nat) (l : Bs) (M : Nat → Prop) (w : World) (hM : BM b l M w) :
    Calls Tryz.prog 188 #[.pointer (some ⟨b, 0, none⟩)] w fun e w' => e = .returned (.int .i64 l.length) ∧ w' = w := by
  have h := Tryz.Builder_Len 0 b (Lib.byteCells l) w hM.isb
  have hl : (Lib.byteCells l).length = l.length := by simp [Lib.byteCells]
  rw [hl] at h
  exact h
end Tk
end Go.Proofs.YthooghgiokgdhaaGreatDoor
