/- halfwayhousekit.LightTexts, whatever the bounds. -/
import Derived.Test.YtdmjpfmjfffmiaaDoorSame
namespace Go.Proofs.YtdmjpfmjfffmiaaDoor
open Go.RowKit
namespace Tk

/-- may the texts be gone through: so many bytes together -/
def txGo (b : Nat) : Nat → List Bs → Bool
  | _, [] => true
  | n, x :: t => if b < n + x.length then false else txGo b (n + x.length) t
def lightX (M b : Nat) (l : List Bs) : Bool := decide (l.length ≤ M) && txGo b 0 l
theorem txGo_each (b : Nat) : ∀ (l : List Bs) (n : Nat), txGo b n l = true → ∀ x ∈ l, x.length ≤ b
  | [], _, _, x, hx => by simp at hx
  | y :: t, n, h, x, hx => by
    unfold txGo at h
    split at h
    · cases h
    · rcases List.mem_cons.1 hx with rfl | hx
      · omega
      · exact txGo_each b t _ h x hx
theorem lightX_parts (M b : Nat) (l : List Bs) (h : lightX M b l = true) : l.length ≤ M ∧ ∀ x ∈ l, x.length ≤ b := by
  unfold lightX at h
  rw [Bool.and_eq_true, decide_eq_true_eq] at h
  exact ⟨h.1, txGo_each b l 0 h.2⟩

set_option maxHeartbeats 2000000 in
set_option maxRecDepth 100000 in
theorem lightX_any (M b : Nat) (v : Value) (l : List Bs) (w : World) (hM : M ≤ 1000000) (hb : b ≤ 1000000) (hs : IsStrs w v l) (hz : ∀ x ∈ l, x.length ≤ 140737488351232) (hl : l.length ≤ 140737488351232) :
    Calls Tryd.prog 27 #[v, .int .i64 (M : Int), .int .i64 (b : Int)] w fun e w' => e = .returned (.bool (lightX M b l)) ∧ w = w' := by
  obtain ⟨a, c, rfl, hc⟩ := hs
  have HC := Lib.hid hc
  have HZ := Lib.hid hz
  clear hc hz
  by_cases h20 : M < l.length
  · have fin : lightX M b l = false := by unfold lightX; rw [decide_eq_false (by omega)]; rfl
    have HF := Lib.hid fin
    have h' : (M : Int) < (l.length : Int) := by omega
    clear fin
    go_enter Tryd.func27, Tryd.ntmps27
    go_wp2_with fail
    go_ret
    exact ⟨by rw [HF.out]; rfl, rfl⟩
  · have fin : lightX M b l = txGo b 0 l := by unfold lightX; rw [decide_eq_true (by omega)]; rfl
    have HF := Lib.hid fin
    have h' : ¬ (M : Int) < (l.length : Int) := by omega
    clear fin
    go_enter Tryd.func27, Tryd.ntmps27
    go_wp2_with fail
    go_loop [7, 8] (fun vn vi => ∃ (i n : Nat), i ≤ l.length ∧ n ≤ b ∧ vi = .int .i64 i ∧ vn = .int .i64 n ∧ Hid (lightX M b l = txGo b n (l.drop i))) (fun _ vi => l.length - (RowKit.intOf vi).toNat)
    case atStart => exact ⟨0, 0, by omega, by omega, rfl, rfl, HF.out⟩
    case round =>
      obtain ⟨i, n, hi, hn, rfl, rfl, hd⟩ := hrel
      by_cases hlt : i < l.length
      · obtain ⟨bb, o, rfl, hcell⟩ := HC.out i (l.getD i []) (by simp [List.getD, hlt])
        have hxl := HZ.out (l.getD i []) (by simp [List.getD, hlt])
        have hdr : l.drop i = l.getD i [] :: l.drop (i + 1) := by rw [List.drop_eq_getElem_cons hlt]; simp [List.getD, hlt]
        have HD := Lib.hid hdr
        have hsz : (mkS (l.getD i [])).size = (l.getD i []).length := size_mkS _
        clear hdr
        generalize l.getD i [] = x at *
        have HS := Lib.hid hsz
        have hxz : (mkS x).size ≤ 140737488351232 := by omega
        clear hsz
        by_cases hbb : b < n + (mkS x).size
        · have fin : lightX M b l = false := by
            rw [hd.out, HD.out, txGo, if_pos (by rw [← HS.out]; exact hbb)]
          have HF2 := Lib.hid fin
          have hb' : (b : Int) < (n : Int) + ((mkS x).size : Int) := by omega
          clear fin
          generalize mkS x = s at *
          go_wp2_with fail
          go_ret
          exact ⟨by rw [HF2.out]; rfl, rfl⟩
        · have nx : lightX M b l = txGo b (n + (mkS x).size) (l.drop (i + 1)) := by
            rw [hd.out, HD.out, txGo, if_neg (by rw [← HS.out]; exact hbb), HS.out]
          have HN := Lib.hid nx
          have hb' : ¬ (b : Int) < (n : Int) + ((mkS x).size : Int) := by omega
          clear nx
          generalize mkS x = s at *
          go_wp2_with fail
          exact ⟨⟨i + 1, n + s.size, by omega, by omega, by go_num, by go_num, HN⟩, by simp [RowKit.intOf]; omega⟩
      · have fin : lightX M b l = true := by rw [hd.out, List.drop_eq_nil_of_le (by omega)]; rfl
        have HF2 := Lib.hid fin
        clear fin
        go_wp2_with fail
        go_ret
        exact ⟨by rw [HF2.out]; rfl, rfl⟩
end Tk
end Go.Proofs.YtdmjpfmjfffmiaaDoor
