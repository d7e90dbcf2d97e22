/- token.all: each byte of a text can stand where those of a kind can. -/
import Derived.Test.YtdmjpfmjfffmiaaDoorKin
namespace Go.Proofs.YtdmjpfmjfffmiaaDoor
open Go.RowKit
namespace Tk

def allL (k : Int) (l : Bs) : Bool := l.all fun c => decide (k ≤ kindOf c.toNat)

theorem allL_cons (k : Int) (c : UInt8) (t : Bs) : allL k (c :: t) = (decide (k ≤ kindOf c.toNat) && allL k t) := rfl
theorem allL_append (k : Int) (a b : Bs) : allL k (a ++ b) = (allL k a && allL k b) := by unfold allL; rw [List.all_append]
theorem k92 : decide (1 ≤ kindOf (92 : UInt8).toNat) = true := by decide
theorem k34 : decide (1 ≤ kindOf (34 : UInt8).toNat) = true := by decide

theorem kindL_size : (kindL.map (Value.int .u8)).toArray.size = 256 := by kernel_rfl
theorem kindL_one : (kindL.map (Value.int .u8)).toArray.all (·.oneCell') = true := by kernel_rfl
theorem kindL_at (c : UInt8) : (kindL.map (Value.int .u8)).toArray[c.toNat]? = some (.int .u8 (kindOf c.toNat)) := by
  have h : c.toNat < 256 := c.toNat_lt
  simp [kindL, h]

set_option maxHeartbeats 1000000 in
set_option maxRecDepth 100000 in
theorem all_any (s : ByteArray) (k : Int) (w : World) (hs : s.size ≤ 1099511627776) :
    Calls Tryd.prog 111 #[.string s, .int .u8 k] w fun e w' => e = .returned (.bool (allL k (bs s))) ∧ Below w.heap.size w w' := by
  have hks := kindL_size
  have hk1 := kindL_one
  have hka := Lib.hid kindL_at
  have HK := Lib.hid (kinds_any w)
  generalize (kindL.map (Value.int .u8)).toArray = ks at *
  have hzk := kind_zero
  go_enter Tryd.func111, Tryd.ntmps111
  go_wp2_with fail
  refine HK.out.mono ?_
  rintro e w1 ⟨rfl, hb⟩
  have HB := Lib.hid hb
  clear hb
  go_wp2_with fail
  first
  | simp only [Result.andThen, run_storeCells_new (P := Tryd.prog) w1 143 zk ks (by rw [hks]; kernel_rfl) (by rw [hks]; kernel_rfl) hk1]
  | simp only [Result.andThen, run_storeCells_new (P := Tryd.prog) w1 143 Tryd.zeroCells143 ks (by rw [hks]; kernel_rfl) (by rw [hks]; kernel_rfl) hk1]
  rw [Oper.upon_skip]
  have hcell : ∀ c : UInt8, (w1.alloc (Obj.cells ks 143)).cell? ⟨w1.heap.size, c.toNat, none⟩ = some (.int .u8 (kindOf c.toNat)) := fun c => by
    rw [Lib.cell_of_heap (heap_alloc_last w1 _)]; exact hka.out c
  have HC := Lib.hid hcell
  have HB2 := Lib.hid ((HB.out).alloc HB.out.size (Obj.cells ks 143))
  clear hcell hka hks hk1 HK hzk
  generalize hW : w1.alloc (Obj.cells ks 143) = W at *
  clear hW
  generalize w1.heap.size = g at *
  go_wp2_with fail
  go_loopw [10] (fun v wr => ∃ i : Nat, i ≤ s.size ∧ v = .int .i64 i ∧ wr = W ∧ Hid (allL k (bs s) = allL k ((bs s).drop i))) (fun v _ => s.size - (RowKit.intOf v).toNat)
  case atStart => exact ⟨0, Nat.zero_le _, rfl, rfl, rfl⟩
  case round =>
    obtain ⟨i, hi, rfl, rfl, hd⟩ := hrel
    by_cases hlt : i < s.size
    · have hc := HC.out s[i]
      have hu := s[i].toNat_lt
      have hdrop : (bs s).drop i = s[i] :: (bs s).drop (i + 1) := by
        rw [List.drop_eq_getElem_cons (by rw [length_bs]; exact hlt)]; rfl
      have HD := Lib.hid hdrop
      clear hdrop
      by_cases hk : kindOf s[i].toNat < k
      · go_wp2_with fail
        have fin : allL k (bs s) = false := by
          rw [hd.out, HD.out]
          have : decide (k ≤ kindOf s[i].toNat) = false := by simp; omega
          unfold allL; rw [List.all_cons, this]; rfl
        go_ret
        exact ⟨by rw [fin]; rfl, HB2.out⟩
      · go_wp2_with fail
        refine ⟨⟨i + 1, by omega, by go_num, trivial, ?_⟩, by simp [RowKit.intOf]; omega⟩
        show _ = _
        rw [hd.out, HD.out]
        have : k ≤ kindOf s[i].toNat := by omega
        simp [allL, this]
    · go_wp2_with fail
      have fin : allL k (bs s) = true := by
        rw [hd.out, List.drop_eq_nil_of_le (by rw [length_bs]; omega)]; rfl
      go_ret
      exact ⟨by rw [fin]; rfl, HB2.out⟩
end Tk
end Go.Proofs.YtdmjpfmjfffmiaaDoor
