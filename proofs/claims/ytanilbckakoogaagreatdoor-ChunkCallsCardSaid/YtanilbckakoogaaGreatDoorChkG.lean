/- chunk: New, Done, Body, Trailers; what Feed defers. -/
import Derived.Test.YtanilbckakoogaaGreatDoorChkE
import Derived.Test.YtanilbckakoogaaGreatDoorFldJ
import Derived.Laws.EntriesVeiled
import Derived.Defers
import Derived.Recover
namespace Go.Proofs.YtanilbckakoogaaGreatDoor
open Go.RowKit
namespace Tk

theorem state_eql_func (f : Fn) (x y : Array Value) (w : World) : (binOp .eql 61 (.func f x y) .nilFunc).run Tryz.prog w = .ok (.bool false) w := by
  have h : ∀ d : Nat, (Op.equalIn (d + 1) 61 (.func f x y) .nilFunc).run Tryz.prog w = .ok false w := fun d => by
    simp [Op.equalIn, run_underlying Tryz.underlying61]
  simp only [binOp]
  simp [Op.equal, Op.maxDepth, h 9999]
theorem state_eql_nil (w : World) : (binOp .eql 61 .nilFunc .nilFunc).run Tryz.prog w = .ok (.bool true) w := by
  have h : ∀ d : Nat, (Op.equalIn (d + 1) 61 .nilFunc .nilFunc).run Tryz.prog w = .ok true w := fun d => by
    simp [Op.equalIn, run_underlying Tryz.underlying61]
  simp only [binOp]
  simp [Op.equal, Op.maxDepth, h 9999]
theorem state_neq_func (f : Fn) (x y : Array Value) (w : World) : (binOp .neq 61 (.func f x y) .nilFunc).run Tryz.prog w = .ok (.bool true) w := by
  have h : ∀ d : Nat, (Op.equalIn (d + 1) 61 (.func f x y) .nilFunc).run Tryz.prog w = .ok false w := fun d => by
    simp [Op.equalIn, run_underlying Tryz.underlying61]
  simp only [binOp]
  simp [Op.equal, Op.maxDepth, h 9999]
theorem state_neq_nil (w : World) : (binOp .neq 61 .nilFunc .nilFunc).run Tryz.prog w = .ok (.bool false) w := by
  have h : ∀ d : Nat, (Op.equalIn (d + 1) 61 .nilFunc .nilFunc).run Tryz.prog w = .ok true w := fun d => by
    simp [Op.equalIn, run_underlying Tryz.underlying61]
  simp only [binOp]
  simp [Op.equal, Op.maxDepth, h 9999]

set_option maxHeartbeats 2000000 in
set_option maxRecDepth 100000 in
theorem new_any (L H C M : Int) (l h c m : Nat) (B : Nat) (w : World) (hB : B ≤ w.heap.size) (hl : max L 0 = l) (hh : max H 0 = h) (hc : max C 0 = c) (hm : max M 0 = m) :
    Calls Tryz.prog 10 #[.agg #[.int .i64 L, .int .i64 H, .int .i64 C, .int .i64 M]] w fun e w' => ∃ b, e = .returned (ptr b) ∧ w.heap.size ≤ b ∧ Dec B b (newD l h c m) (.slice none 0 0) (.slice none 0 0) (.slice none 0 0) w' ∧ Below w.heap.size w w' := by
  have hmf : ∀ (fn : Fn) (first cap : Array Value) (w : World), (Instr.makeFunc fn first cap).run Tryz.prog w = .ok (.func fn first cap) w := fun _ _ _ _ => rfl
  go_enter Tryz.func10, Tryz.ntmps10
  go_wp2
  go_ret
  refine ⟨w.heap.size + 1, rfl, by omega, ⟨by omega, ?_, World.ownsRow_nil _ _ _ _, World.ownsRow_nil _ _ _ _, World.ownsRow_nil _ _ _ _, by intro k hk; cases hk⟩, ((Below.refl _ _).alloc (Nat.le_refl _) _).alloc (by simp) _⟩
  have := heap_alloc_last (w.alloc (Obj.cells #[.int .i64 L, .int .i64 H, .int .i64 C, .int .i64 M] 34)) (Obj.cells (dcells (w.heap.size + 1) (newD l h c m) (.slice none 0 0) (.slice none 0 0) (.slice none 0 0)) 64)
  rw [show (w.alloc (Obj.cells #[.int .i64 L, .int .i64 H, .int .i64 C, .int .i64 M] 34)).heap.size = w.heap.size + 1 by simp] at this
  exact this

set_option maxHeartbeats 1000000 in
set_option maxRecDepth 100000 in
theorem done_yes {B b : Nat} {s : Dc} {vl vb vt : Value} {w : World} (h : Dec B b s vl vb vt w) (hm : s.mode = 5) :
    Calls Tryz.prog 13 #[ptr b] w fun e w' => e = .returned (.bool true) ∧ w' = w := by
  have HM := Lib.hid (made_any h)
  have k5 : w.cell? ⟨b, 5, none⟩ = some .nilFunc := h.cell 5 _ (by show some (stV b s.mode) = _; rw [hm]; rfl)
  clear h hm
  have hq := state_eql_nil
  unfold ptr
  go_enter Tryz.func13, Tryz.ntmps13
  go_wp2_with fail
  refine HM.out.mono ?_
  rintro e w' ⟨rfl, rfl⟩
  go_wp2
  go_ret
  exact ⟨rfl, rfl⟩
theorem stV_lt (b m : Nat) (h : m < 5) : ∃ F, stV b m = .func (.func F) #[.pointer (some ⟨b, 0, none⟩)] #[] := by
  match m, h with
  | 0, _ | 1, _ | 2, _ | 3, _ | 4, _ => exact ⟨_, rfl⟩
  | n + 5, h => omega
set_option maxHeartbeats 1000000 in
set_option maxRecDepth 100000 in
theorem done_no {B b : Nat} {s : Dc} {vl vb vt : Value} {w : World} (h : Dec B b s vl vb vt w) (hm : s.mode < 5) :
    Calls Tryz.prog 13 #[ptr b] w fun e w' => e = .returned (.bool false) ∧ w' = w := by
  have HM := Lib.hid (made_any h)
  obtain ⟨F, hF⟩ := stV_lt b s.mode hm
  have k5 : w.cell? ⟨b, 5, none⟩ = some (.func (.func F) #[.pointer (some ⟨b, 0, none⟩)] #[]) := h.cell 5 _ (by show some (stV b s.mode) = _; rw [hF])
  clear h hm hF
  have hq := state_eql_func
  unfold ptr
  go_enter Tryz.func13, Tryz.ntmps13
  go_wp2_with fail
  refine HM.out.mono ?_
  rintro e w' ⟨rfl, rfl⟩
  go_wp2
  go_ret
  exact ⟨rfl, rfl⟩
theorem done_any {B b : Nat} {s : Dc} {vl vb vt : Value} {w : World} (h : Dec B b s vl vb vt w) (hm : s.mode ≤ 5) :
    Calls Tryz.prog 13 #[ptr b] w fun e w' => e = .returned (.bool (decide (s.mode = 5))) ∧ w' = w := by
  by_cases h5 : s.mode = 5
  · rw [decide_eq_true h5]; exact done_yes h h5
  · rw [decide_eq_false h5]; exact done_no h (by omega)

theorem run_convert_nil (w : World) (n c : Nat) : (convert 43 9 (.slice none n c)).run Tryz.prog w = .ok (.string ⟨#[]⟩) w := by
  rw [run_convert_bytes_string (P := Tryz.prog) w 43 9 5 none n c Tryz.underlying43 Tryz.underlying5 Tryz.underlying9]
  rfl
set_option maxHeartbeats 1000000 in
set_option maxRecDepth 100000 in
theorem body_any {B b : Nat} {s : Dc} {vl vb vt : Value} {w : World} (h : Dec B b s vl vb vt w) :
    Calls Tryz.prog 14 #[ptr b] w fun e w' => e = .returned (.string (mkS s.body)) ∧ w' = w := by
  have HM := Lib.hid (made_any h)
  have k10 : w.cell? ⟨b, 10, none⟩ = some vb := h.cell 10 _ rfl
  have hcv : ∃ a c, vb = .slice a s.body.length c ∧ (convert 43 9 (.slice a s.body.length c)).run Tryz.prog w = .ok (.string (mkS s.body)) w := by
    rcases h.body.2 with ⟨hv, h0⟩ | ⟨g, cap, cur, hv, _⟩
    · refine ⟨none, 0, by rw [hv, h0], ?_⟩
      rw [run_convert_nil, List.eq_nil_of_length_eq_zero h0]; rfl
    · exact ⟨_, _, hv, run_convert_bytes_back (P := Tryz.prog) w 43 9 5 ⟨g, 0, none⟩ cap s.body Tryz.underlying43 Tryz.underlying5 Tryz.underlying9 (fun j hj => cells_str_at h.body hv j hj)⟩
  obtain ⟨a, c, rfl, hc⟩ := hcv
  clear h
  generalize s.body.length = n at *
  unfold ptr
  go_enter Tryz.func14, Tryz.ntmps14
  go_wp2_with fail
  refine HM.out.mono ?_
  rintro e w' ⟨rfl, rfl⟩
  go_wp2
  go_ret
  exact ⟨rfl, rfl⟩
set_option maxHeartbeats 1000000 in
set_option maxRecDepth 100000 in
theorem body_nil (w : World) :
    Calls Tryz.prog 14 #[.pointer none] w fun e w' => e = .returned (.string ⟨#[]⟩) ∧ w' = w := by
  have HM := Lib.hid (made_nil w)
  go_enter Tryz.func14, Tryz.ntmps14
  go_wp2_with fail
  refine HM.out.mono ?_
  rintro e w' ⟨rfl, rfl⟩
  go_wp2
  go_ret
  exact ⟨rfl, rfl⟩
set_option maxHeartbeats 1000000 in
set_option maxRecDepth 100000 in
theorem done_nil (w : World) :
    Calls Tryz.prog 13 #[.pointer none] w fun e w' => e = .returned (.bool false) ∧ w' = w := by
  have HM := Lib.hid (made_nil w)
  go_enter Tryz.func13, Tryz.ntmps13
  go_wp2_with fail
  refine HM.out.mono ?_
  rintro e w' ⟨rfl, rfl⟩
  go_wp2
  go_ret
  exact ⟨rfl, rfl⟩

end Tk
end Go.Proofs.YtanilbckakoogaaGreatDoor
