/- ChkM ChkN, put together. -/
import Derived.Test.YtanilbckakoogaaGreatDoorChkQ
import Derived.Test.YtanilbckakoogaaGreatDoorStr
import Derived.Laws.BytesString
import Derived.WalkSmall
import Derived.Test.YtanilbckakoogaaGreatDoorFldM
namespace Go.Proofs.YtanilbckakoogaaGreatDoor
open Go.RowKit
namespace Tk

/-- what is read of the table of trailing zeros -/
def Bruijn (B : Nat) (w : World) : Prop := 5 < B ∧ B ≤ w.heap.size ∧ w.cell? ⟨5, 15, none⟩ = some (.int .u8 4)
theorem Bruijn.later {B : Nat} {w w' : World} (h : Bruijn B w) (hb : Below B w w') : Bruijn B w' := by
  obtain ⟨h1, h2, h3⟩ := h
  exact ⟨h1, Nat.le_trans h2 hb.size, (hb.cell (p := ⟨5, 15, none⟩) h1).trans h3⟩
theorem Bruijn.top {B : Nat} {w : World} (h : Bruijn B w) : Bruijn w.heap.size w := ⟨Nat.lt_of_lt_of_le h.1 h.2.1, Nat.le_refl _, h.2.2⟩

set_option maxHeartbeats 1000000 in
set_option maxRecDepth 100000 in
theorem tz64_any (B : Nat) (w : World) (h : Bruijn B w) :
    Calls Tryz.prog 89 #[.int .u64 16] w fun e w' => e = .returned (.int .i64 4) ∧ w' = w := by
  have hc := h.2.2
  have b1 : bits .and .u64 16 (IntKind.u64.wrap (-16)) = 16 := by decide
  have b2 : IntKind.u64.wrap (16 * 285870213051353865) = 4573923408821661840 := by decide
  have b3 : Int.shiftRight 4573923408821661840 58 = 15 := by decide
  clear h
  go_enter Tryz.func89, Tryz.ntmps89
  go_wp2
  go_ret
  exact ⟨rfl, rfl⟩

set_option maxHeartbeats 1000000 in
set_option maxRecDepth 100000 in
theorem tz_any (B : Nat) (w : World) (h : Bruijn B w) :
    Calls Tryz.prog 70 #[.int .u64 16] w fun e w' => e = .returned (.int .i64 4) ∧ w' = w := by
  have H := Lib.hid (tz64_any B w h)
  clear h
  go_enter Tryz.func70, Tryz.ntmps70
  go_wp2_with fail
  refine H.out.mono ?_
  rintro e w' ⟨rfl, rfl⟩
  go_wp2_with fail
  go_ret
  exact ⟨rfl, rfl⟩
set_option maxHeartbeats 1000000 in
set_option maxRecDepth 100000 in
theorem pow2_any (w : World) :
    Calls Tryz.prog 69 #[.int .i64 16] w fun e w' => e = .returned (.bool true) ∧ w' = w := by
  have b1 : bits .and .i64 16 15 = 0 := by decide
  go_enter Tryz.func69, Tryz.ntmps69
  go_wp2
  go_ret
  exact ⟨rfl, rfl⟩

theorem hex_and : ∀ n : Nat, n < 256 → bits .and .u64 (n : Int) 15 = ((n % 16 : Nat) : Int) := by decide +kernel
theorem hex_shr : ∀ n : Nat, n < 256 → Int.shiftRight (n : Int) 4 = ((n / 16 : Nat) : Int) := by decide +kernel
def digs36 : ByteArray := ⟨#[48, 49, 50, 51, 52, 53, 54, 55, 56, 57, 97, 98, 99, 100, 101, 102, 103, 104, 105, 106, 107, 108, 109, 110, 111, 112, 113, 114, 115, 116, 117, 118, 119, 120, 121, 122]⟩
theorem digs_at (n : Nat) (h : n < 16) (h2 : n < digs36.size) : digs36[n] = hexc n := by
  match n, h with
  | 0, _ | 1, _ | 2, _ | 3, _ | 4, _ | 5, _ | 6, _ | 7, _ | 8, _ | 9, _ | 10, _ | 11, _ | 12, _ | 13, _ | 14, _ | 15, _ => rfl
  | n + 16, h => omega

set_option maxHeartbeats 4000000 in
set_option maxRecDepth 100000 in
theorem fmtBits_any (n : Nat) (B : Nat) (w : World) (h : Bruijn B w) (hn : n < 256) :
    Calls Tryz.prog 50 #[.slice none 0 0, .int .u64 n, .int .i64 16, .bool false, .bool false] w fun e w' => e = .returned (.tuple #[.slice none 0 0, .string (mkS (hexL n))]) ∧ Below w.heap.size w w' := by
  have H1 := Lib.hid (fun W : World => pow2_any W)
  have H2 := Lib.hid (fun (W : World) (hb : Below w.heap.size w W) => tz_any w.heap.size W (h.top.later hb))
  have hz := heap_alloc_last w (.cells Tryz.zeroCells94 94)
  have c64 : (w.alloc (.cells Tryz.zeroCells94 94)).cell? ⟨w.heap.size, 64, none⟩ = some (.int .u8 0) := by rw [Lib.cell_of_heap hz]; kernel_rfl
  have c63 : (w.alloc (.cells Tryz.zeroCells94 94)).cell? ⟨w.heap.size, 63, none⟩ = some (.int .u8 0) := by rw [Lib.cell_of_heap hz]; kernel_rfl
  have f64 : (w.alloc (.cells Tryz.zeroCells94 94)).frozen? ⟨w.heap.size, 64, none⟩ = false := Lib.frozen_of_heap hz 64
  have f63 : (w.alloc (.cells Tryz.zeroCells94 94)).frozen? ⟨w.heap.size, 63, none⟩ = false := Lib.frozen_of_heap hz 63
  have HB0 := Lib.hid (show Below w.heap.size w (w.alloc (.cells Tryz.zeroCells94 94)) from (Below.refl _ _).alloc (Nat.le_refl _) _)
  clear h hz
  go_enter Tryz.func50, Tryz.ntmps50
  go_wp2_with fail
  generalize w.alloc (.cells Tryz.zeroCells94 94) = W0 at *
  have HG := Lib.hid (Nat.le_refl w.heap.size)
  generalize hg : w.heap.size = g at c64 c63 f64 f63 HG ⊢
  have HGe := Lib.hid hg
  clear hg
  refine (H1.out _).mono ?_
  rintro e w' ⟨rfl, rfl⟩
  go_wp2_with fail
  refine (H2.out _ HB0.out).mono ?_
  rintro e w' ⟨rfl, rfl⟩
  go_wp2_with fail
  have C64 := Lib.hid c64
  have C63 := Lib.hid c63
  have F64 := Lib.hid f64
  have F63 := Lib.hid f63
  clear c64 c63 f64 f63 H1 H2
  go_loopw [1, 13] (fun vu vi wr => (vu = .int .u64 n ∧ vi = .int .i64 65 ∧ wr = w') ∨ (16 ≤ n ∧ vu = .int .u64 ((n / 16 : Nat) : Int) ∧ vi = .int .i64 64 ∧ wr = w'.setCell ⟨g, 64, none⟩ (.int .u8 (hexc (n % 16)).toNat))) (fun vu _ _ => (RowKit.intOf vu).toNat)
  case atStart => exact .inl ⟨rfl, rfl, rfl⟩
  case round =>
    have c64 := C64.out
    have f64 := F64.out
    rcases hrel with ⟨rfl, rfl, rfl⟩ | ⟨h16, rfl, rfl, rfl⟩
    · by_cases h16 : 16 ≤ n
      · have ha := hex_and n hn
        have hs := hex_shr n hn
        have hd : ∀ h : n % 16 < (⟨#[48, 49, 50, 51, 52, 53, 54, 55, 56, 57, 97, 98, 99, 100, 101, 102, 103, 104, 105, 106, 107, 108, 109, 110, 111, 112, 113, 114, 115, 116, 117, 118, 119, 120, 121, 122]⟩ : ByteArray).size, (⟨#[48, 49, 50, 51, 52, 53, 54, 55, 56, 57, 97, 98, 99, 100, 101, 102, 103, 104, 105, 106, 107, 108, 109, 110, 111, 112, 113, 114, 115, 116, 117, 118, 119, 120, 121, 122]⟩ : ByteArray)[n % 16] = hexc (n % 16) := fun h => digs_at (n % 16) (by omega) h
        have b1 : (16 : Int) ≤ (n : Int) := by omega
        have b2 : ((n % 16 : Nat) : Int) < 36 := by omega
        have b3 : (0 : Int) ≤ ((n % 16 : Nat) : Int) := by omega
        generalize hm : n % 16 = m at *
        generalize hq : n / 16 = q at *
        have HM := Lib.hid hm
        have HQ := Lib.hid hq
        clear hm hq
        go_wp2_with fail
        exact ⟨.inr ⟨h16, by rw [show (n : Int) / 16 = (q : Int) by have := HQ.out; omega], rfl, by first | trivial | rfl⟩, by simp [RowKit.intOf]; omega⟩
      · have hd : ∀ h : n < (⟨#[48, 49, 50, 51, 52, 53, 54, 55, 56, 57, 97, 98, 99, 100, 101, 102, 103, 104, 105, 106, 107, 108, 109, 110, 111, 112, 113, 114, 115, 116, 117, 118, 119, 120, 121, 122]⟩ : ByteArray).size, (⟨#[48, 49, 50, 51, 52, 53, 54, 55, 56, 57, 97, 98, 99, 100, 101, 102, 103, 104, 105, 106, 107, 108, 109, 110, 111, 112, 113, 114, 115, 116, 117, 118, 119, 120, 121, 122]⟩ : ByteArray)[n] = hexc n := fun h => digs_at n (by omega) h
        have b1 : ¬ (16 : Int) ≤ (n : Int) := by omega
        have b2 : (n : Int) < 36 := by omega
        have b3 : (0 : Int) ≤ (n : Int) := by omega
        have hcv : (convert 43 9 (.slice (some ⟨g, 64, none⟩) 1 1)).run Tryz.prog (wr.setCell ⟨g, 64, none⟩ (.int .u8 (hexc n).toNat)) = .ok (.string (mkS [hexc n])) (wr.setCell ⟨g, 64, none⟩ (.int .u8 (hexc n).toNat)) := run_convert_bytes_back (P := Tryz.prog) (wr.setCell ⟨g, 64, none⟩ (.int .u8 (hexc n).toNat)) 43 9 5 ⟨g, 64, none⟩ 1 [hexc n] Tryz.underlying43 Tryz.underlying5 Tryz.underlying9 (fun j hj => by
          have hj0 : j = 0 := by simpa using hj
          subst hj0
          exact World.cell?_setCell_same _ _ _ c64)
        have HR := Lib.hid (hexF_small hexc n (by omega))
        have HBw := Lib.hid (show Below w.heap.size w (wr.setCell ⟨g, 64, none⟩ (.int .u8 (hexc n).toNat)) from HB0.out.setCell (p := ⟨g, 64, none⟩) (by rw [HGe.out]; exact Nat.le_refl _) _)
        clear h16
        go_wp2_with fail
        go_ret2
        exact ⟨by show _ = Ending.returned (.tuple #[.slice none 0 0, .string (mkS (hexF hexc _))]); rw [HR.out]; rfl, HBw.out⟩
    · have hd : ∀ h : n / 16 < (⟨#[48, 49, 50, 51, 52, 53, 54, 55, 56, 57, 97, 98, 99, 100, 101, 102, 103, 104, 105, 106, 107, 108, 109, 110, 111, 112, 113, 114, 115, 116, 117, 118, 119, 120, 121, 122]⟩ : ByteArray).size, (⟨#[48, 49, 50, 51, 52, 53, 54, 55, 56, 57, 97, 98, 99, 100, 101, 102, 103, 104, 105, 106, 107, 108, 109, 110, 111, 112, 113, 114, 115, 116, 117, 118, 119, 120, 121, 122]⟩ : ByteArray)[n / 16] = hexc (n / 16) := fun h => digs_at (n / 16) (by omega) h
      have c63 : (w'.setCell ⟨g, 64, none⟩ (.int .u8 (hexc (n % 16)).toNat)).cell? ⟨g, 63, none⟩ = some (.int .u8 0) := by rw [World.cell?_setCell_other _ _ _ _ (by simp)]; exact C63.out
      have f63 : (w'.setCell ⟨g, 64, none⟩ (.int .u8 (hexc (n % 16)).toNat)).frozen? ⟨g, 63, none⟩ = false := by simpa using F63.out
      have HR := Lib.hid (show hexF hexc n = [hexc (n / 16), hexc (n % 16)] by rw [hexF_big hexc n (by omega), hexF_small hexc (n / 16) (by omega)]; rfl)
      have hcv : (convert 43 9 (.slice (some ⟨g, 63, none⟩) 2 2)).run Tryz.prog ((w'.setCell ⟨g, 64, none⟩ (.int .u8 (hexc (n % 16)).toNat)).setCell ⟨g, 63, none⟩ (.int .u8 (hexc (n / 16)).toNat)) = .ok (.string (mkS [hexc (n / 16), hexc (n % 16)])) ((w'.setCell ⟨g, 64, none⟩ (.int .u8 (hexc (n % 16)).toNat)).setCell ⟨g, 63, none⟩ (.int .u8 (hexc (n / 16)).toNat)) := run_convert_bytes_back (P := Tryz.prog) ((w'.setCell ⟨g, 64, none⟩ (.int .u8 (hexc (n % 16)).toNat)).setCell ⟨g, 63, none⟩ (.int .u8 (hexc (n / 16)).toNat)) 43 9 5 ⟨g, 63, none⟩ 2 [hexc (n / 16), hexc (n % 16)] Tryz.underlying43 Tryz.underlying5 Tryz.underlying9 (fun j hj => by
        have hj2 : j = 0 ∨ j = 1 := by simp at hj; omega
        rcases hj2 with rfl | rfl
        · exact World.cell?_setCell_same _ _ _ c63
        · exact (World.cell?_setCell_other _ _ _ _ (by show (⟨g, 63, none⟩ : Addr) ≠ (⟨g, 63, none⟩ : Addr).add 1; rw [Go.WideShapes.add_plain]; simp)).trans (World.cell?_setCell_same _ _ _ c64))
      have HBw := Lib.hid (show Below w.heap.size w ((w'.setCell ⟨g, 64, none⟩ (.int .u8 (hexc (n % 16)).toNat)).setCell ⟨g, 63, none⟩ (.int .u8 (hexc (n / 16)).toNat)) from (HB0.out.setCell (p := ⟨g, 64, none⟩) (by rw [HGe.out]; exact Nat.le_refl _) _).setCell (p := ⟨g, 63, none⟩) (by rw [HGe.out]; exact Nat.le_refl _) _)
      have b1 : ¬ (16 : Int) ≤ ((n / 16 : Nat) : Int) := by omega
      have b2 : ((n / 16 : Nat) : Int) < 36 := by omega
      have b3 : (0 : Int) ≤ ((n / 16 : Nat) : Int) := by omega
      generalize n / 16 = q at *
      generalize n % 16 = m at *
      generalize w'.setCell ⟨g, 64, none⟩ (.int .u8 (hexc m).toNat) = W1 at *
      clear c64 f64 h16 hn
      go_wp2_with fail
      go_ret2
      exact ⟨by show _ = Ending.returned (.tuple #[.slice none 0 0, .string (mkS (hexF hexc _))]); rw [HR.out]; rfl, HBw.out⟩
end Tk
end Go.Proofs.YtanilbckakoogaaGreatDoor
namespace Go.Proofs.YtanilbckakoogaaGreatDoor
open Go.RowKit
namespace Tk

set_option maxHeartbeats 1000000 in
set_option maxRecDepth 100000 in
theorem ifmt_any (n : Nat) (B : Nat) (w : World) (h : Bruijn B w) (hn : n < 256) :
    Calls Tryz.prog 31 #[.int .i64 n, .int .i64 16] w fun e w' => e = .returned (.string (mkS (hexL n))) ∧ Below w.heap.size w w' := by
  have H := Lib.hid (fmtBits_any n B w h hn)
  have b1 : ¬ (n : Int) < 0 := by omega
  have b2 : (n : Int) < 256 := by omega
  clear h hn
  go_enter Tryz.func31, Tryz.ntmps31
  go_wp2_with fail
  refine H.out.mono ?_
  rintro e w' ⟨rfl, hb⟩
  have HB := Lib.hid hb
  clear hb
  go_wp2_with fail
  go_ret
  exact ⟨rfl, HB.out⟩
set_option maxHeartbeats 1000000 in
set_option maxRecDepth 100000 in
theorem fmt_any (n : Nat) (B : Nat) (w : World) (h : Bruijn B w) (hn : n < 256) :
    Calls Tryz.prog 17 #[.int .i64 n, .int .i64 16] w fun e w' => e = .returned (.string (mkS (hexL n))) ∧ Below w.heap.size w w' := by
  have H := Lib.hid (ifmt_any n B w h hn)
  clear h hn
  go_enter Tryz.func17, Tryz.ntmps17
  go_wp2_with fail
  refine H.out.mono ?_
  rintro e w' ⟨rfl, hb⟩
  have HB := Lib.hid hb
  clear hb
  go_wp2_with fail
  go_ret
  exact ⟨rfl, HB.out⟩

/-- the size of a chunk that Encode takes -/
def encK (size : Int) (body : Bs) : Nat := if size < 1 then body.length else size.toNat
def EncPost (body : Bs) (size : Int) (l : List (Bs × Bs)) (w : World) (e : Ending) (w' : World) : Prop :=
  e = .returned (.tuple #[.string (mkS (if okFs l then encL (encK size body) body (linesF l) else [])), .int .i64 (byE l)]) ∧ Below w.heap.size w w'

theorem chunks_len (k : Nat) : ∀ (n : Nat) (l : Bs), l.length ≤ n → l.length < 256 → (chunksL k l).length ≤ 7 * l.length
  | 0, l, h, h2 => by
    have : l = [] := List.eq_nil_of_length_eq_zero (by omega)
    subst this; rw [chunksL_nil]; simp
  | n + 1, l, h, h2 => by
    by_cases he : l = []
    · subst he; rw [chunksL_nil]; simp
    · by_cases hk : k = 0
      · subst hk; rw [chunksL]; simp
      · have hp := List.length_pos_iff.2 he
        have hd := chunks_len k n (l.drop k) (by simp; omega) (by simp; omega)
        have hx := hexF_len hexc 1 (l.take k).length (by simp; omega)
        have htl : (l.take k).length + (l.drop k).length = l.length := by rw [← List.length_append, List.take_append_drop]
        have ht : 0 < (l.take k).length := by rw [List.length_take]; omega
        rw [chunksL_cons k l he hk]
        simp only [List.length_append, List.length_cons, List.length_nil]
        show (hexF hexc (l.take k).length).length + 2 + (l.take k).length + 2 + (chunksL k (l.drop k)).length ≤ _
        omega

def strLen : Value → Nat
  | .string s => s.size
  | _ => 0
theorem two1310 : (ByteArray.mk #[13, 10]).size = 2 := rfl
theorem three0 : (ByteArray.mk #[48, 13, 10]).size = 3 := rfl

set_option maxHeartbeats 1000000 in
set_option maxRecDepth 100000 in
theorem encode_no (body : ByteArray) (size : Int) (v : Value) (l : List (Bs × Bs)) (w : World) (hs : IsFlds w v l) (hz : sumF l ≤ 1099511) (hl : l.length ≤ 1099511) (hok : okFs l = false) :
    Calls Tryz.prog 6 #[.string body, .int .i64 size, v] w (EncPost (bs body) size l w) := by
  have h := bytes_any v l w hs (by omega) (by omega)
  have e1 : byN l = [] := by unfold byN; rw [hok]; rfl
  have e2 : byE l = 4 := by unfold byE; rw [hok]; rfl
  unfold BytesPost at h
  unfold EncPost
  rw [e1, e2] at h
  rw [e2, hok]
  have H := Lib.hid h
  obtain ⟨a, cap, rfl⟩ : ∃ a cap, v = .slice a l.length cap := by obtain ⟨a, c, h, -⟩ := hs; exact ⟨a, c, h⟩
  clear h hs hz hl hok e1 e2
  go_enter Tryz.func6, Tryz.ntmps6
  go_wp2_with fail
  refine H.out.mono ?_
  rintro e w1 ⟨rfl, hb⟩
  have HB := Lib.hid hb
  clear hb
  go_wp2_with fail
  go_ret2
  exact ⟨rfl, HB.out⟩

set_option maxHeartbeats 8000000 in
set_option maxRecDepth 100000 in
theorem encode_ok (body : ByteArray) (size : Int) (k : Nat) (v : Value) (l : List (Bs × Bs)) (w : World) (hs : IsFlds w v l) (hz : sumF l ≤ 1099511) (hl : l.length ≤ 1099511) (hok : okFs l = true) (hbz : body.size ≤ 200) (hB : Bruijn w.heap.size w)
    (hsz : (size < 1 ∧ k = body.size) ∨ (¬ size < 1 ∧ size = (k : Int) ∧ size ≤ 9223372036854775807)) :
    Calls Tryz.prog 6 #[.string body, .int .i64 size, v] w fun e w' => e = .returned (.tuple #[.string (mkS (encL k (bs body) (linesF l))), .int .i64 0]) ∧ Below w.heap.size w w' := by
  have h := bytes_any v l w hs (by omega) (by omega)
  have e1 : byN l = linesF l := by unfold byN; rw [hok]; rfl
  have e2 : byE l = 0 := by unfold byE; rw [hok]; rfl
  unfold BytesPost at h
  rw [e1, e2] at h
  have hll := lines_len l
  have hk0 : k ≠ 0 ∨ bs body = [] := by
    rcases hsz with ⟨h1, h2⟩ | ⟨h1, h2, h3⟩
    · by_cases h0 : body.size = 0
      · exact .inr (List.eq_nil_of_length_eq_zero (by rw [length_bs]; exact h0))
      · exact .inl (by omega)
    · exact .inl (by omega)
  have HK0 := Lib.hid hk0
  have H := Lib.hid h
  have HLL := Lib.hid (show (linesF l).length ≤ 1099511 by omega)
  have hlen := length_bs body
  have HCL := Lib.hid (chunks_len k _ (bs body) (Nat.le_refl _) (by omega))
  have HLen := Lib.hid hlen
  have HBj := Lib.hid hB
  have hpos : (0 : Int) ≤ (k : Int) ∧ (k : Int) ≤ 9223372036854775807 := by rcases hsz with h | h <;> omega
  obtain ⟨hk1, hk2⟩ := hpos
  have HR := Lib.hid (show encL k (bs body) (linesF l) = chunksL k (bs body) ++ [48, 13, 10] ++ linesF l ++ [13, 10] from rfl)
  generalize linesF l = F at *
  obtain ⟨a, cap, rfl⟩ : ∃ a cap, v = .slice a l.length cap := by obtain ⟨a, c, h, -⟩ := hs; exact ⟨a, c, h⟩
  have hbz2 : body.size ≤ 200 := hbz
  clear h hs hz hl hok e1 e2 hll hk0 hlen hB
  rcases hsz with ⟨h1, h2⟩ | ⟨h1, h2, h3⟩
  all_goals
    first | (clear h3; subst h2) | skip
    go_enter Tryz.func6, Tryz.ntmps6
    go_wp2_with fail
    refine H.out.mono ?_
    rintro e w1 ⟨rfl, hb⟩
    have HB1 := Lib.hid hb
    have HBj1 := Lib.hid (HBj.out.later hb)
    have hB0 := Lib.hid (Lib.fresh_isBuilder 45 5 w1)
    have HB2 := Lib.hid (show Below w1.heap.size w1 (w1.alloc (Obj.cells #[Value.pointer none, Value.slice none 0 0] 45)) from (Below.refl _ _).alloc (Nat.le_refl _) _)
    have hsz1 : w1.heap.size ≤ (w1.alloc (Obj.cells #[Value.pointer none, Value.slice none 0 0] 45)).heap.size := by simp
    have HSw := Lib.hid hb.size
    clear hb
    go_wp2_with fail
    generalize w1.alloc (Obj.cells #[Value.pointer none, Value.slice none 0 0] 45) = W at *
    generalize hgw : w1.heap.size = B at *
    have HGW := Lib.hid hgw
    clear hgw
    try rw [← h2]
    try clear h2
    go_loopw [0] (fun v0 wr => ∃ (r p : Bs), v0 = .string (mkS r) ∧ r.length ≤ body.size ∧ Hid (chunksL k (bs body) = p ++ chunksL k r) ∧ Hid (IsB B B p wr) ∧ Hid (Below B w1 wr) ∧ B ≤ wr.heap.size) (fun v0 _ => strLen v0)
    case atStart => exact ⟨bs body, [], by rw [mkS_bs], by rw [HLen.out]; exact Nat.le_refl _, rfl, hB0.out, HB2.out, hsz1⟩
    case round =>
      obtain ⟨r, p, rfl, hr, hch, hI, hB3, hBw⟩ := hrel
      rename World => W3
      have hpl : p.length ≤ 7 * (bs body).length := by
        have h1 := HCL.out
        rw [hch.out, List.length_append] at h1
        omega
      have HPL := Lib.hid (show p.length ≤ 1400 by rw [HLen.out] at hpl; omega)
      clear hpl
      by_cases hrn : r = []
      · subst hrn
        have hc2 : chunksL k (bs body) = p := by rw [hch.out, chunksL_nil, List.append_nil]
        have HC2 := Lib.hid hc2
        clear hc2
        have hemp : ((mkS ([] : Bs)).toList == ([] : List UInt8)) = true := by rw [toList_bs, bs_mkS]; rfl
        have hemp2 : (mkS ([] : Bs)).toList.isEmpty = true := by rw [toList_bs, bs_mkS]; rfl
        have H1 := Lib.hid (writeString B B p ⟨#[48, 13, 10]⟩ W3 hI.out (by rw [three0]; have := HPL.out; omega) hBw)
        clear hch
        go_wp2_with fail
        refine H1.out.mono ?_
        rintro e w4 ⟨rfl, hi4, hb4, -⟩
        have HB4 := Lib.hid (hB3.out.trans hb4)
        have hs4 := Nat.le_trans hBw hb4.size
        have H2 := Lib.hid (writeString B B _ (mkS F) w4 hi4 (by rw [List.length_append, length_bs, three0, size_mkS]; have := HPL.out; have := HLL.out; omega) hs4)
        clear hi4 hb4
        go_wp2_with fail
        refine H2.out.mono ?_
        rintro e w5 ⟨rfl, hi5, hb5, -⟩
        have HB5 := Lib.hid (HB4.out.trans hb5)
        have hs5 := Nat.le_trans hs4 hb5.size
        have H3 := Lib.hid (writeString B B _ ⟨#[13, 10]⟩ w5 hi5 (by rw [List.length_append, List.length_append, length_bs, length_bs, three0, size_mkS, two1310]; have := HPL.out; have := HLL.out; omega) hs5)
        clear hi5 hb5
        go_wp2_with fail
        refine H3.out.mono ?_
        rintro e w6 ⟨rfl, hi6, hb6, -⟩
        have HB6 := Lib.hid (HB5.out.trans hb6)
        have hs6 := Nat.le_trans hs5 hb6.size
        have H4 := Lib.hid (Tryz.Builder_String_any B B _ w6 hi6 hs6)
        clear hi6 hb6
        go_wp2_with fail
        refine H4.out.mono ?_
        rintro e w7 ⟨rfl, hb7⟩
        have HB7 := Lib.hid (HB6.out.trans hb7)
        clear hb7
        go_wp2_with fail
        go_ret2
        refine ⟨?_, HB1.out.trans (HB7.out.mono HSw.out)⟩
        rw [HR.out, HC2.out]
        simp only [List.append_assoc]
        rfl
      · have hrp : 0 < r.length := List.length_pos_iff.2 hrn
        have hk0 : k ≠ 0 := by
          rcases HK0.out with h | h
          · exact h
          · have := HLen.out
            rw [h] at this
            have h0 : body.size = 0 := by simpa using this.symm
            omega
        obtain ⟨m, hm⟩ : ∃ m, m = min k r.length := ⟨_, rfl⟩
        have hm1 : m ≤ r.length := by omega
        have hm0 : 0 < m := by omega
        have htk : r.take k = r.take m := by
          rcases Nat.le_total k r.length with h | h
          · rw [hm, Nat.min_eq_left h]
          · rw [hm, Nat.min_eq_right h, List.take_of_length_le h, List.take_length]
        have hdk : r.drop k = r.drop m := by
          rcases Nat.le_total k r.length with h | h
          · rw [hm, Nat.min_eq_left h]
          · rw [hm, Nat.min_eq_right h, List.drop_of_length_le h, List.drop_length]
        have hcc := chunksL_cons k r hrn hk0
        rw [htk, hdk, List.length_take, Nat.min_eq_left hm1] at hcc
        have hnx : chunksL k (bs body) = (p ++ hexL m ++ [13, 10] ++ r.take m ++ [13, 10]) ++ chunksL k (r.drop m) := by
          rw [hch.out, hcc]; simp only [List.append_assoc]
        have HNX := Lib.hid hnx
        have zr : (mkS r).size = r.length := size_mkS r
        have hmin : min (k : Int) ((mkS r).size : Int) = (m : Int) := by rw [zr]; omega
        have hx1 : bs ((mkS r).extract 0 m) = r.take m := by rw [bs_extract, bs_mkS]; simp
        have hx2 : (mkS r).extract m (mkS r).size = mkS (r.drop m) := by
          rw [extract_mkS, bs_mkS, zr, List.take_of_length_le (by rw [List.length_drop]; exact Nat.le_refl _)]
        have hemp : ((mkS r).toList == ([] : List UInt8)) = false := by
          rw [toList_bs, bs_mkS]; cases r with | nil => exact absurd rfl hrn | cons _ _ => rfl
        have hemp2 : (mkS r).toList.isEmpty = false := by
          rw [toList_bs, bs_mkS]; cases r with | nil => exact absurd rfl hrn | cons _ _ => rfl
        have hhx : (hexF hexc m).length ≤ 2 := hexF_len hexc 1 m (by omega)
        have h63 : (mkS (hexF hexc m)).size + 2 ≤ 9223372036854775807 := by rw [size_mkS]; omega
        have HX2 := Lib.hid hx2
        have HX1 := Lib.hid hx1
        have HM := Lib.hid (show 0 < m ∧ m ≤ r.length ∧ r.length ≤ body.size ∧ (hexF hexc m).length ≤ 2 from ⟨hm0, hm1, hr, hhx⟩)
        have HFm := Lib.hid (fmt_any m w.heap.size W3 (HBj1.out.later (hB3.out.mono HSw.out)) (by omega))
        have m1 : (0 : Int) ≤ (m : Int) := by omega
        have m2 : (m : Int) ≤ ((mkS r).size : Int) := by rw [zr]; omega
        have m3 : (m : Int) ≤ 200 := by omega
        have hIW := Lib.hid hI.out
        change Hid (Calls Tryz.prog 17 #[.int .i64 m, .int .i64 16] W3 fun e w' => e = .returned (.string (mkS (hexF hexc m))) ∧ Below W3.heap.size W3 w') at HFm
        change Hid (chunksL k (bs body) = (p ++ hexF hexc m ++ [13, 10] ++ r.take m ++ [13, 10]) ++ chunksL k (r.drop m)) at HNX
        clear hch hcc hnx htk hdk hx1 hx2 hm hm0 hm1 hhx hrn hrp zr hr
        generalize hexF hexc m = X at *
        generalize hR : mkS r = R at *
        go_wp2_with fail
        refine HFm.out.mono ?_
        rintro e w4 ⟨rfl, hb⟩
        have hI4 := isB_below hIW.out hb
        have HB4 := Lib.hid (hB3.out.trans (hb.mono hBw))
        have hs4 := Nat.le_trans hBw hb.size
        have H1 := Lib.hid (writeString B B p (mkS X ++ ⟨#[13, 10]⟩) w4 hI4 (by rw [ByteArray.size_append, size_mkS, two1310]; have := HPL.out; have := HM.out; omega) hs4)
        clear hb hI4
        go_wp2_with fail
        refine H1.out.mono ?_
        rintro e w5 ⟨rfl, hi5, hb5, -⟩
        have HB5 := Lib.hid (HB4.out.trans hb5)
        have hs5 := Nat.le_trans hs4 hb5.size
        have H2 := Lib.hid (writeString B B _ (R.extract 0 m) w5 hi5 (by rw [List.length_append, length_bs, ByteArray.size_append, size_mkS, two1310, ← length_bs (R.extract 0 m), HX1.out, List.length_take]; have := HPL.out; have := HM.out; omega) hs5)
        clear hi5 hb5
        go_wp2_with fail
        refine H2.out.mono ?_
        rintro e w6 ⟨rfl, hi6, hb6, -⟩
        have HB6 := Lib.hid (HB5.out.trans hb6)
        have hs6 := Nat.le_trans hs5 hb6.size
        have H3 := Lib.hid (writeString B B _ ⟨#[13, 10]⟩ w6 hi6 (by rw [List.length_append, List.length_append, length_bs, ByteArray.size_append, size_mkS, two1310, HX1.out, List.length_take]; have := HPL.out; have := HM.out; omega) hs6)
        clear hi6 hb6
        go_wp2_with fail
        refine H3.out.mono ?_
        rintro e w7 ⟨rfl, hi7, hb7, -⟩
        have HB7 := Lib.hid (HB6.out.trans hb7)
        have hs7 := Nat.le_trans hs6 hb7.size
        have HI7 : Hid (IsB B B (p ++ X ++ [13, 10] ++ r.take m ++ [13, 10]) w7) := by
          have h := hi7
          rw [HX1.out] at h
          have e1 : bs (mkS X ++ ⟨#[13, 10]⟩) = X ++ [13, 10] := by rw [show (mkS X ++ ⟨#[13, 10]⟩ : ByteArray) = mkS (X ++ [13, 10]) from mkS_append _ [13, 10], bs_mkS]
          rw [e1, ← List.append_assoc] at h
          exact h
        clear hi7 hb7
        go_wp2_with fail
        have hx2 := HX2.out
        rw [hx2]
        exact ⟨⟨r.drop m, p ++ X ++ [13, 10] ++ r.take m ++ [13, 10], rfl, by rw [List.length_drop]; have := HM.out; omega, HNX, HI7, HB7, hs7⟩, by
          show (mkS (r.drop m)).size < R.size
          rw [size_mkS, List.length_drop, ← hR, size_mkS]; have := HM.out; omega⟩

theorem encode_any (body : ByteArray) (size : Int) (v : Value) (l : List (Bs × Bs)) (w : World) (hs : IsFlds w v l) (hz : sumF l ≤ 1099511) (hl : l.length ≤ 1099511) (hbz : body.size ≤ 200) (hB : Bruijn w.heap.size w) (hsz : size ≤ 9223372036854775807) :
    Calls Tryz.prog 6 #[.string body, .int .i64 size, v] w (EncPost (bs body) size l w) := by
  cases hok : okFs l
  · exact encode_no body size v l w hs hz hl hok
  · refine (encode_ok body size (encK size (bs body)) v l w hs hz hl hok hbz hB ?_).mono ?_
    · unfold encK
      by_cases h1 : size < 1
      · rw [if_pos h1, length_bs]; exact .inl ⟨h1, rfl⟩
      · rw [if_neg h1]; exact .inr ⟨h1, by omega, hsz⟩
    · rintro e w' ⟨rfl, hb⟩
      unfold EncPost
      rw [hok]
      have e2 : byE l = 0 := by unfold byE; rw [hok]; rfl
      rw [e2]
      exact ⟨rfl, hb⟩
end Tk
end Go.Proofs.YtanilbckakoogaaGreatDoor
