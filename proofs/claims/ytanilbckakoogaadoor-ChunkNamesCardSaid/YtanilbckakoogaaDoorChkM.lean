/- strconv.FormatInt by sixteen, of a number below 256. -/
import Derived.Test.YtanilbckakoogaaDoorChkQ
import Derived.Test.YtanilbckakoogaaDoorStr
import Derived.Laws.BytesString
import Derived.WalkSmall
namespace Go.Proofs.YtanilbckakoogaaDoor
open Go.RowKit
namespace Tk

/-- what is read of the table of trailing zeros -/
def Bruijn (B : Nat) (w : World) : Prop := 7 < B ∧ B ≤ w.heap.size ∧ w.cell? ⟨7, 15, none⟩ = some (.int .u8 4)
theorem Bruijn.later {B : Nat} {w w' : World} (h : Bruijn B w) (hb : Below B w w') : Bruijn B w' := by
  obtain ⟨h1, h2, h3⟩ := h
  exact ⟨h1, Nat.le_trans h2 hb.size, (hb.cell (p := ⟨7, 15, none⟩) h1).trans h3⟩
theorem Bruijn.top {B : Nat} {w : World} (h : Bruijn B w) : Bruijn w.heap.size w := ⟨Nat.lt_of_lt_of_le h.1 h.2.1, Nat.le_refl _, h.2.2⟩

set_option maxHeartbeats 1000000 in
set_option maxRecDepth 100000 in
theorem tz64_any (B : Nat) (w : World) (h : Bruijn B w) :
    Calls Tryd.prog 152 #[.int .u64 16] w fun e w' => e = .returned (.int .i64 4) ∧ w' = w := by
  have hc := h.2.2
  have b1 : bits .and .u64 16 (IntKind.u64.wrap (-16)) = 16 := by decide
  have b2 : IntKind.u64.wrap (16 * 285870213051353865) = 4573923408821661840 := by decide
  have b3 : Int.shiftRight 4573923408821661840 58 = 15 := by decide
  clear h
  go_enter Tryd.func152, Tryd.ntmps152
  go_wp2
  go_ret
  exact ⟨rfl, rfl⟩

set_option maxHeartbeats 1000000 in
set_option maxRecDepth 100000 in
theorem tz_any (B : Nat) (w : World) (h : Bruijn B w) :
    Calls Tryd.prog 142 #[.int .u64 16] w fun e w' => e = .returned (.int .i64 4) ∧ w' = w := by
  have H := Lib.hid (tz64_any B w h)
  clear h
  go_enter Tryd.func142, Tryd.ntmps142
  go_wp2_with fail
  refine H.out.mono ?_
  rintro e w' ⟨rfl, rfl⟩
  go_wp2_with fail
  go_ret
  exact ⟨rfl, rfl⟩
set_option maxHeartbeats 1000000 in
set_option maxRecDepth 100000 in
theorem pow2_any (w : World) :
    Calls Tryd.prog 141 #[.int .i64 16] w fun e w' => e = .returned (.bool true) ∧ w' = w := by
  have b1 : bits .and .i64 16 15 = 0 := by decide
  go_enter Tryd.func141, Tryd.ntmps141
  go_wp2
  go_ret
  exact ⟨rfl, rfl⟩

theorem hex_and : ∀ n : Nat, n < 256 → bits .and .u64 (n : Int) 15 = ((n % 16 : Nat) : Int) := by decide +kernel
theorem hex_shr : ∀ n : Nat, n < 256 → Int.shiftRight (n : Int) 4 = ((n / 16 : Nat) : Int) := by decide +kernel
def digs36 : ByteArray := ⟨#[48, 49, 50, 51, 52, 53, 54, 55, 56, 57, 97, 98, 99, 100, 101, 102, 103, 104, 105, 106, 107, 108, 109, 110, 111, 112, 113, 114, 115, 116, 117, 118, 119, 120, 121, 122]⟩
theorem digs_at (n : Nat) (h : n < 16) (h2 : n < digs36.size) : digs36[n] = hexc n := by
  match n, h with
  | 0, _ | 1, _ | 2, _ | 3, _ | 4, _ | 5, _ | 6, _ | 7, _ | 8, _ | 9, _ | 10, _ | 11, _ | 12, _ | 13, _ | 14, _ | 15, _ => rfl
  | n + 16, h => omega

set_option maxHeartbeats 4000000 in
set_option maxRecDepth 100000 in
theorem fmtBits_any (n : Nat) (B : Nat) (w : World) (h : Bruijn B w) (hn : n < 256) :
    Calls Tryd.prog 121 #[.slice none 0 0, .int .u64 n, .int .i64 16, .bool false, .bool false] w fun e w' => e = .returned (.tuple #[.slice none 0 0, .string (mkS (hexL n))]) ∧ Below w.heap.size w w' := by
  have H1 := Lib.hid (fun W : World => pow2_any W)
  have H2 := Lib.hid (fun (W : World) (hb : Below w.heap.size w W) => tz_any w.heap.size W (h.top.later hb))
  have hz := heap_alloc_last w (.cells Tryd.zeroCells150 150)
  have c64 : (w.alloc (.cells Tryd.zeroCells150 150)).cell? ⟨w.heap.size, 64, none⟩ = some (.int .u8 0) := by rw [Lib.cell_of_heap hz]; kernel_rfl
  have c63 : (w.alloc (.cells Tryd.zeroCells150 150)).cell? ⟨w.heap.size, 63, none⟩ = some (.int .u8 0) := by rw [Lib.cell_of_heap hz]; kernel_rfl
  have f64 : (w.alloc (.cells Tryd.zeroCells150 150)).frozen? ⟨w.heap.size, 64, none⟩ = false := Lib.frozen_of_heap hz 64
  have f63 : (w.alloc (.cells Tryd.zeroCells150 150)).frozen? ⟨w.heap.size, 63, none⟩ = false := Lib.frozen_of_heap hz 63
  have HB0 := Lib.hid (show Below w.heap.size w (w.alloc (.cells Tryd.zeroCells150 150)) from (Below.refl _ _).alloc (Nat.le_refl _) _)
  clear h hz
  go_enter Tryd.func121, Tryd.ntmps121
  go_wp2_with fail
  generalize w.alloc (.cells Tryd.zeroCells150 150) = W0 at *
  have HG := Lib.hid (Nat.le_refl w.heap.size)
  generalize hg : w.heap.size = g at c64 c63 f64 f63 HG ⊢
  have HGe := Lib.hid hg
  clear hg
  refine (H1.out _).mono ?_
  rintro e w' ⟨rfl, rfl⟩
  go_wp2_with fail
  refine (H2.out _ HB0.out).mono ?_
  rintro e w' ⟨rfl, rfl⟩
  go_wp2_with fail
  have C64 := Lib.hid c64
  have C63 := Lib.hid c63
  have F64 := Lib.hid f64
  have F63 := Lib.hid f63
  clear c64 c63 f64 f63 H1 H2
  go_loopw [1, 13] (fun vu vi wr => (vu = .int .u64 n ∧ vi = .int .i64 65 ∧ wr = w') ∨ (16 ≤ n ∧ vu = .int .u64 ((n / 16 : Nat) : Int) ∧ vi = .int .i64 64 ∧ wr = w'.setCell ⟨g, 64, none⟩ (.int .u8 (hexc (n % 16)).toNat))) (fun vu _ _ => (RowKit.intOf vu).toNat)
  case atStart => exact .inl ⟨rfl, rfl, rfl⟩
  case round =>
    have c64 := C64.out
    have f64 := F64.out
    rcases hrel with ⟨rfl, rfl, rfl⟩ | ⟨h16, rfl, rfl, rfl⟩
    · by_cases h16 : 16 ≤ n
      · have ha := hex_and n hn
        have hs := hex_shr n hn
        have hd : ∀ h : n % 16 < (⟨#[48, 49, 50, 51, 52, 53, 54, 55, 56, 57, 97, 98, 99, 100, 101, 102, 103, 104, 105, 106, 107, 108, 109, 110, 111, 112, 113, 114, 115, 116, 117, 118, 119, 120, 121, 122]⟩ : ByteArray).size, (⟨#[48, 49, 50, 51, 52, 53, 54, 55, 56, 57, 97, 98, 99, 100, 101, 102, 103, 104, 105, 106, 107, 108, 109, 110, 111, 112, 113, 114, 115, 116, 117, 118, 119, 120, 121, 122]⟩ : ByteArray)[n % 16] = hexc (n % 16) := fun h => digs_at (n % 16) (by omega) h
        have b1 : (16 : Int) ≤ (n : Int) := by omega
        have b2 : ((n % 16 : Nat) : Int) < 36 := by omega
        have b3 : (0 : Int) ≤ ((n % 16 : Nat) : Int) := by omega
        generalize hm : n % 16 = m at *
        generalize hq : n / 16 = q at *
        have HM := Lib.hid hm
        have HQ := Lib.hid hq
        clear hm hq
        go_wp2_with fail
        exact ⟨.inr ⟨h16, by rw [show (n : Int) / 16 = (q : Int) by have := HQ.out; omega], rfl, by first | trivial | rfl⟩, by simp [RowKit.intOf]; omega⟩
      · have hd : ∀ h : n < (⟨#[48, 49, 50, 51, 52, 53, 54, 55, 56, 57, 97, 98, 99, 100, 101, 102, 103, 104, 105, 106, 107, 108, 109, 110, 111, 112, 113, 114, 115, 116, 117, 118, 119, 120, 121, 122]⟩ : ByteArray).size, (⟨#[48, 49, 50, 51, 52, 53, 54, 55, 56, 57, 97, 98, 99, 100, 101, 102, 103, 104, 105, 106, 107, 108, 109, 110, 111, 112, 113, 114, 115, 116, 117, 118, 119, 120, 121, 122]⟩ : ByteArray)[n] = hexc n := fun h => digs_at n (by omega) h
        have b1 : ¬ (16 : Int) ≤ (n : Int) := by omega
        have b2 : (n : Int) < 36 := by omega
        have b3 : (0 : Int) ≤ (n : Int) := by omega
        have hcv : (convert 73 9 (.slice (some ⟨g, 64, none⟩) 1 1)).run Tryd.prog (wr.setCell ⟨g, 64, none⟩ (.int .u8 (hexc n).toNat)) = .ok (.string (mkS [hexc n])) (wr.setCell ⟨g, 64, none⟩ (.int .u8 (hexc n).toNat)) := run_convert_bytes_back (P := Tryd.prog) (wr.setCell ⟨g, 64, none⟩ (.int .u8 (hexc n).toNat)) 73 9 5 ⟨g, 64, none⟩ 1 [hexc n] Tryd.underlying73 Tryd.underlying5 Tryd.underlying9 (fun j hj => by
          have hj0 : j = 0 := by simpa using hj
          subst hj0
          exact World.cell?_setCell_same _ _ _ c64)
        have HR := Lib.hid (hexF_small hexc n (by omega))
        have HBw := Lib.hid (show Below w.heap.size w (wr.setCell ⟨g, 64, none⟩ (.int .u8 (hexc n).toNat)) from HB0.out.setCell (p := ⟨g, 64, none⟩) (by rw [HGe.out]; exact Nat.le_refl _) _)
        clear h16
        go_wp2_with fail
        go_ret2
        exact ⟨by show _ = Ending.returned (.tuple #[.slice none 0 0, .string (mkS (hexF hexc _))]); rw [HR.out]; rfl, HBw.out⟩
    · have hd : ∀ h : n / 16 < (⟨#[48, 49, 50, 51, 52, 53, 54, 55, 56, 57, 97, 98, 99, 100, 101, 102, 103, 104, 105, 106, 107, 108, 109, 110, 111, 112, 113, 114, 115, 116, 117, 118, 119, 120, 121, 122]⟩ : ByteArray).size, (⟨#[48, 49, 50, 51, 52, 53, 54, 55, 56, 57, 97, 98, 99, 100, 101, 102, 103, 104, 105, 106, 107, 108, 109, 110, 111, 112, 113, 114, 115, 116, 117, 118, 119, 120, 121, 122]⟩ : ByteArray)[n / 16] = hexc (n / 16) := fun h => digs_at (n / 16) (by omega) h
      have c63 : (w'.setCell ⟨g, 64, none⟩ (.int .u8 (hexc (n % 16)).toNat)).cell? ⟨g, 63, none⟩ = some (.int .u8 0) := by rw [World.cell?_setCell_other _ _ _ _ (by simp)]; exact C63.out
      have f63 : (w'.setCell ⟨g, 64, none⟩ (.int .u8 (hexc (n % 16)).toNat)).frozen? ⟨g, 63, none⟩ = false := by simpa using F63.out
      have HR := Lib.hid (show hexF hexc n = [hexc (n / 16), hexc (n % 16)] by rw [hexF_big hexc n (by omega), hexF_small hexc (n / 16) (by omega)]; rfl)
      have hcv : (convert 73 9 (.slice (some ⟨g, 63, none⟩) 2 2)).run Tryd.prog ((w'.setCell ⟨g, 64, none⟩ (.int .u8 (hexc (n % 16)).toNat)).setCell ⟨g, 63, none⟩ (.int .u8 (hexc (n / 16)).toNat)) = .ok (.string (mkS [hexc (n / 16), hexc (n % 16)])) ((w'.setCell ⟨g, 64, none⟩ (.int .u8 (hexc (n % 16)).toNat)).setCell ⟨g, 63, none⟩ (.int .u8 (hexc (n / 16)).toNat)) := run_convert_bytes_back (P := Tryd.prog) ((w'.setCell ⟨g, 64, none⟩ (.int .u8 (hexc (n % 16)).toNat)).setCell ⟨g, 63, none⟩ (.int .u8 (hexc (n / 16)).toNat)) 73 9 5 ⟨g, 63, none⟩ 2 [hexc (n / 16), hexc (n % 16)] Tryd.underlying73 Tryd.underlying5 Tryd.underlying9 (fun j hj => by
        have hj2 : j = 0 ∨ j = 1 := by simp at hj; omega
        rcases hj2 with rfl | rfl
        · exact World.cell?_setCell_same _ _ _ c63
        · exact (World.cell?_setCell_other _ _ _ _ (by show (⟨g, 63, none⟩ : Addr) ≠ (⟨g, 63, none⟩ : Addr).add 1; rw [Go.WideShapes.add_plain]; simp)).trans (World.cell?_setCell_same _ _ _ c64))
      have HBw := Lib.hid (show Below w.heap.size w ((w'.setCell ⟨g, 64, none⟩ (.int .u8 (hexc (n % 16)).toNat)).setCell ⟨g, 63, none⟩ (.int .u8 (hexc (n / 16)).toNat)) from (HB0.out.setCell (p := ⟨g, 64, none⟩) (by rw [HGe.out]; exact Nat.le_refl _) _).setCell (p := ⟨g, 63, none⟩) (by rw [HGe.out]; exact Nat.le_refl _) _)
      have b1 : ¬ (16 : Int) ≤ ((n / 16 : Nat) : Int) := by omega
      have b2 : ((n / 16 : Nat) : Int) < 36 := by omega
      have b3 : (0 : Int) ≤ ((n / 16 : Nat) : Int) := by omega
      generalize n / 16 = q at *
      generalize n % 16 = m at *
      generalize w'.setCell ⟨g, 64, none⟩ (.int .u8 (hexc m).toNat) = W1 at *
      clear c64 f64 h16 hn
      go_wp2_with fail
      go_ret2
      exact ⟨by show _ = Ending.returned (.tuple #[.slice none 0 0, .string (mkS (hexF hexc _))]); rw [HR.out]; rfl, HBw.out⟩
end Tk
end Go.Proofs.YtanilbckakoogaaDoor
