/- EcA, put together. -/
import Derived.Test.YtajmheblbnodjaaGreatDoorQZ
import Derived.Test.YtajmheblbnodjaaGreatDoorQR
import Derived.Test.YtajmheblbnodjaaGreatDoorQV
import Derived.BigQuiet
namespace Go.Proofs.YtajmheblbnodjaaGreatDoor
open Go.RowKit
namespace Tk

theorem noStandT : Tryz.prog.stoodInHeld 81 = false := by kernel_rfl
theorem noStandX : Tryz.prog.stoodInHeld 89 = false := by kernel_rfl
theorem tag_neq (W : World) (k : Bool) (b : ByteArray) : (binOp .neq 81 (.agg #[.bool k, .string b]) (.agg #[.bool k, .string b])).run Tryz.prog W = .ok (.bool false) W := by
  rw [run_neq_struct, run_equalIn_agg _ _ _ _ _ (by simp [Program.fieldsOf, Tryz.underlying81]) noStandT]
  simp [Program.fieldsOf, Tryz.underlying81, Op.eqFields, go_sem]
theorem tag_eql (W : World) (k : Bool) (b : ByteArray) : (binOp .eql 81 (.agg #[.bool k, .string b]) (.agg #[.bool k, .string b])).run Tryz.prog W = .ok (.bool true) W := by
  rw [run_eql_struct, run_equalIn_agg _ _ _ _ _ (by simp [Program.fieldsOf, Tryz.underlying81]) noStandT]
  simp [Program.fieldsOf, Tryz.underlying81, Op.eqFields, go_sem]
theorem chk_eql (W : World) (c : Ck) : (binOp .eql 89 (.agg (ckA c)) (.agg (ckA c))).run Tryz.prog W = .ok (.bool true) W := by
  rw [run_eql_struct, run_equalIn_agg _ _ _ _ _ (by simp [Program.fieldsOf, Tryz.underlying89]) noStandX]
  simp [Program.fieldsOf, Tryz.underlying89, Tryz.underlying81, Op.eqFields, go_sem, ckA]
theorem guardT : Tryz.prog.eqGuardType Tryz.prog.depth 81 = false := by kernel_rfl
theorem guardX : Tryz.prog.eqGuardType Tryz.prog.depth 89 = false := by kernel_rfl
theorem exec_eqlE {P : Program} {ρ : Operand → Value} {o : Oper} {w : World} {t t2 : TypeId} (x y : Operand) (ho : o.op = .binOp .eql t x y t2) (xs ys : Array Value) (b : Bool) (hx : ρ x = .agg xs) (hy : ρ y = .agg ys)
    (h : (binOp .eql t (.agg xs) (.agg ys)).run P w = .ok (.bool b) w) (hm : P.eqGuardType P.depth t = false) : (execOp ρ o).run P w = .ok (.value (.bool b)) w := by
  simp [execOp, ho, hx, hy, h, run_eqGuard_agg (P := P) w BinOp.eql t x y xs ys hm, Result.andThen]
theorem wpE_val {P : Program} {o : Oper} {a : Act} {w : World} {Q : Exit → Act → World → Prop} {K : Act → World → Prop} (v : Value) (h : (execOp a.eval o).run P w = .ok (.value v) w) (k : K (a.put o.dst v) w) : o.wp P a w K Q := by
  unfold Oper.wp
  rw [h]
  exact k
theorem wplE_val {P : Program} {ops : Array Oper} {rest : List Oper} {o : Oper} {a : Act} {w : World} {Q : Exit → Act → World → Prop} (hg : o.guard = none) (v : Value) (h : (execOp a.eval o).run P w = .ok (.value v) w) (k : wpList P ops Q rest (a.put o.dst v) w) : wpList P ops Q (o :: rest) a w :=
  wpList_plain hg fun _ hK => wpE_val v h (hK _ _ k)

set_option maxHeartbeats 2000000 in
set_option maxRecDepth 100000 in
theorem tsame_self (v1 v2 : Value) (l : List Tg) (w : World) (h1 : IsTgs w v1 l) (h2 : IsTgs w v2 l) (hl : l.length ≤ 1099511627) :
    Calls Tryz.prog 62 #[v1, v2] w fun e w' => e = .returned (.bool true) ∧ Below w.heap.size w w' := by
  obtain ⟨a1, c1, rfl, l1, k1⟩ := h1
  obtain ⟨a2, c2, rfl, l2, k2⟩ := h2
  have K1 := Lib.hid k1
  have K2 := Lib.hid k2
  have hb : ((l.length : Int) != (l.length : Int)) = false := by simp
  clear k1 k2
  go_enter Tryz.func62, Tryz.ntmps62
  go_wp2_with fail
  go_loopw [5] (fun v wr => ∃ (j n : Nat), j ≤ l.length ∧ v = .int .i64 j ∧ wr = w.drewN n) (fun v _ => l.length - (RowKit.intOf v).toNat)
  case atStart => exact ⟨0, 0, Nat.zero_le _, rfl, rfl⟩
  case round =>
    obtain ⟨j, n, hj, rfl, rfl⟩ := hrel
    by_cases hlt : j < l.length
    · obtain ⟨b1, o1, rfl, d1, d2⟩ := K1.out j (l.getD j (false, [])) (by simp [List.getD, hlt])
      obtain ⟨b2, o2, rfl, d3, d4⟩ := K2.out j (l.getD j (false, [])) (by simp [List.getD, hlt])
      have hfn := tag_neq
      generalize l.getD j (false, []) = f at *
      have g0 : (0 : Int) ≤ (j : Int) := by omega
      have g1 : (j : Int) < (l.length : Int) := by omega
      go_wp2_with fail
      go_quiet (fail)
      go_wp2_with fail
      exact ⟨⟨j + 1, _, by omega, by go_num, rfl⟩, by simp [RowKit.intOf]; omega⟩
    · go_wp2_with fail
      go_ret
      exact ⟨rfl, ⟨rfl, rfl, rfl, Nat.le_refl _, fun _ _ => rfl⟩⟩

theorem lens_all (b : Nat) : ∀ l : List Bs, (∀ x ∈ l, x.length ≤ b) → Lib.lens l ≤ l.length * b
  | [], _ => by simp [Lib.lens]
  | x :: l, h => by
    have h1 := lens_all b l (fun y hy => h y (List.mem_cons_of_mem _ hy))
    have h2 := h x (List.mem_cons_self ..)
    have h3 : Lib.lens (x :: l) = x.length + Lib.lens l := by simp [Lib.lens]
    rw [h3, List.length_cons, Nat.succ_mul]
    omega

set_option maxHeartbeats 1000000 in
theorem light11_any (v : Value) (l : List (Bs × Bs)) (w : World) (hs : IsFlds w v l) (hz : ∀ f ∈ l, f.1.length ≤ 140737488351232 ∧ f.2.length ≤ 140737488351232) (hl : l.length ≤ 140737488351232) :
    Calls Tryz.prog 58 #[v] w fun e w' => e = .returned (.bool (lightU l)) ∧ Below w.heap.size w w' := by
  have HL := Lib.hid (lightTwenty_any v l w hs hz hl)
  go_enter Tryz.func58, Tryz.ntmps58
  go_wp2_with fail
  refine HL.out.mono ?_
  rintro e w' ⟨rfl, n, rfl⟩
  go_wp2_with fail
  go_ret
  exact ⟨rfl, ⟨rfl, rfl, rfl, Nat.le_refl _, fun _ _ => rfl⟩⟩

/-- the boxes of two tags and of checks, the lists, the tables, and what lay before -/
structure HoldC (w : World) (g : Nat) (a b : Tg) (c : Ck) (vl vf : Value) (L : List Bs) (F : List (Bs × Bs)) (Wz : World) : Prop where
  b0 : Bx Wz g 81 #[.bool a.1, .string (mkS a.2)]
  b1 : Bx Wz (g + 1) 81 #[.bool b.1, .string (mkS b.2)]
  b2 : Bx Wz (g + 1 + 1) 89 (ckA c)
  sl : IsStrs Wz vl L
  sf : IsFlds Wz vf F
  nm : NamH Wz
  bl : Below g w Wz
theorem HoldC.later {w W W' : World} {g : Nat} {a b : Tg} {c : Ck} {vl vf : Value} {L : List Bs} {F : List (Bs × Bs)} (h : HoldC w g a b c vl vf L F W) (hb : Below W.heap.size W W') : HoldC w g a b c vl vf L F W' :=
  ⟨h.b0.later hb, h.b1.later hb, h.b2.later hb, isStrs_belowE h.sl hb, isFlds_below h.sf hb, h.nm.later hb, h.bl.trans (hb.mono (Nat.le_of_lt h.b0.lt))⟩
theorem holdC_new (w : World) (a b : Tg) (c : Ck) (vl vf : Value) (L : List Bs) (F : List (Bs × Bs)) (hl : IsStrs w vl L) (hf : IsFlds w vf F) (hN : NamH w) :
    HoldC w w.heap.size a b c vl vf L F (((w.alloc (.cells #[.bool a.1, .string (mkS a.2)] 81)).alloc (.cells #[.bool b.1, .string (mkS b.2)] 81)).alloc (.cells (ckA c) 89)) := by
  have h1 := Bx.new w 81 #[.bool a.1, .string (mkS a.2)]
  have b1 : Below w.heap.size w (w.alloc (.cells #[.bool a.1, .string (mkS a.2)] 81)) := (Below.refl _ _).alloc (Nat.le_refl _) _
  have h2 := Bx.new (w.alloc (.cells #[.bool a.1, .string (mkS a.2)] 81)) 81 #[.bool b.1, .string (mkS b.2)]
  have z1 : (w.alloc (.cells #[.bool a.1, .string (mkS a.2)] 81)).heap.size = w.heap.size + 1 := by simp
  generalize w.alloc (.cells #[.bool a.1, .string (mkS a.2)] 81) = w1 at *
  have b2 : Below w1.heap.size w1 (w1.alloc (.cells #[.bool b.1, .string (mkS b.2)] 81)) := (Below.refl _ _).alloc (Nat.le_refl _) _
  have h3 := Bx.new (w1.alloc (.cells #[.bool b.1, .string (mkS b.2)] 81)) 89 (ckA c)
  have z2 : (w1.alloc (.cells #[.bool b.1, .string (mkS b.2)] 81)).heap.size = w.heap.size + 1 + 1 := by simp [z1]
  generalize w1.alloc (.cells #[.bool b.1, .string (mkS b.2)] 81) = w2 at *
  have b3 : Below w2.heap.size w2 (w2.alloc (.cells (ckA c) 89)) := (Below.refl _ _).alloc (Nat.le_refl _) _
  rw [z1] at h2
  rw [z2] at h3
  have hB : Below w.heap.size w (w2.alloc (.cells (ckA c) 89)) := (b1.trans (b2.mono (by omega))).trans (b3.mono (by omega))
  exact ⟨(h1.later b2).later b3, h2.later b3, h3, isStrs_belowE hl hB, isFlds_below hf hB, hN.later hB, hB⟩
end Tk
end Go.Proofs.YtajmheblbnodjaaGreatDoor
