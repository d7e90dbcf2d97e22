/- chunk: the line that has ended. -/
import Derived.Test.YtanilbckakoogaaGreatDoorChkB
import Derived.Laws.BytesString
namespace Go.Proofs.YtanilbckakoogaaGreatDoor
open Go.RowKit
namespace Tk

theorem cells_str_at {w : World} {B n : Nat} {v : Value} {l : Bs} {g c : Nat} (h : w.ownsRow B 5 1 v n (Lib.byteCells l)) (hv : v = .slice (some ⟨g, 0, none⟩) n c) (j : Nat) (hj : j < l.length) : w.cell? ((⟨g, 0, none⟩ : Addr).add j) = some (.int .u8 ((l[j]).toNat : Int)) := by
  refine h.cells (g := g) (by rw [hv]; rfl) j _ ?_
  simp [Lib.byteCells, hj]

set_option maxHeartbeats 2000000 in
set_option maxRecDepth 100000 in
theorem text_any {B b : Nat} {s : Dc} {vl vb vt : Value} {w : World} (h : Dec B b s vl vb vt w) (p : Bs) (x y : UInt8) (hl : s.line = p ++ [x, y]) (hz : s.line.length ≤ 1099511627776) :
    Calls Tryz.prog 40 #[ptr b] w fun e w' => e = .returned (.string (mkS p)) ∧ DecTo B b { s with line := [] } vl vb vt w w' := by
  have hlen : s.line.length = p.length + 2 := by rw [hl]; simp
  obtain ⟨g, cap, rfl⟩ : ∃ g cap, vl = .slice (some ⟨g, 0, none⟩) s.line.length cap := by
    rcases h.line.2 with ⟨hv, h0⟩ | ⟨g, cap, cur, hv, _⟩
    · omega
    · exact ⟨_, _, hv⟩
  have hcl := cells_str_at h.line rfl
  have hback := fun c : Nat => run_convert_bytes_back (P := Tryz.prog) w.drew 43 9 5 ⟨g, 0, none⟩ c p Tryz.underlying43 Tryz.underlying5 Tryz.underlying9 (fun j hj => by
    have := hcl j (by omega)
    refine this.trans ?_
    congr 3
    simp [hl, List.getElem_append_left hj])
  have hcap : p.length + 2 ≤ cap := by
    rcases h.line.2 with ⟨hv, h0⟩ | ⟨g', cap', cur, hv, _, _, hc, _⟩
    · omega
    · injection hv with _ _ e3; omega
  obtain ⟨hd, ht⟩ := (show Dec B b s _ vb vt w.drew from h.draws 1).cutLine ⟨g, 0, none⟩ cap rfl
  rw [hlen] at h
  have c7 : w.cell? ⟨b, 7, none⟩ = some (.slice (some ⟨g, 0, none⟩) (p.length + 2) cap) := h.cell 7 _ (by show some (Value.slice _ _ _) = _; rfl)
  have f7 := h.frz 7
  have HR := Lib.hid (show DecTo B b { s with line := [] } (.slice (some ⟨g, 0, none⟩) s.line.length cap) vb vt w _ from ⟨_, _, _, hd, (show Turn b _ vb vt _ vb vt w w.drew from Turn.draws b _ vb vt w 1).trans ht⟩)
  clear hd ht h hcl hl
  have hb1 : (0 : Int) ≤ (p.length : Int) := by omega
  generalize hk : p.length = k at *
  have hb2 : (k : Int) ≤ (cap : Int) := by omega
  have hb3 : ¬ (cap : Int) < (k : Int) := by omega
  have hb4 : (0 : Int) ≤ (k : Int) ∧ (k : Int) ≤ (cap : Int) := by omega
  have hb5 : ((k : Int)).toNat = k := by omega
  unfold ptr
  go_enter Tryz.func40, Tryz.ntmps40
  go_wp2_with fail
  go_region
  go_wp2_with fail
  go_ret
  exact ⟨rfl, HR.out⟩
end Tk
end Go.Proofs.YtanilbckakoogaaGreatDoor
