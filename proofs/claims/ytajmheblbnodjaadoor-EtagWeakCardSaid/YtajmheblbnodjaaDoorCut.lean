/- strings.Cut at one byte. -/
import Derived.Test.YtajmheblbnodjaaDoorFld0
import Derived.Shelf.RegionOpenPlain
namespace Go.Proofs.YtajmheblbnodjaaDoor
open Go.RowKit
namespace Tk

def CutPost (c : UInt8) (l : Bs) (w : World) (e : Ending) (w' : World) : Prop := e = .returned (.tuple #[.string (mkS (cutL c l).1), .string (mkS (cutL c l).2.1), .bool (cutL c l).2.2]) ∧ ∃ n, w' = w.drewN n

set_option maxHeartbeats 2000000 in
set_option maxRecDepth 100000 in
theorem slcut_any (s : ByteArray) (c : UInt8) (w : World) (hs : s.size ≤ 1099511627776) :
    Calls Tryd.prog 73 #[.string s, .string ⟨#[c]⟩] w (CutPost c (bs s) w) := by
  have H := Lib.hid (fun W : World => Tryd.stringslite_Index_one s c W)
  have hz : (⟨#[c]⟩ : ByteArray).size = 1 := rfl
  rcases cut_index c (bs s) with ⟨h1, h2⟩ | ⟨i, h1, hi, h2, h3, h4⟩
  · have e1 : cutL c (bs s) = (bs s, [], false) := by unfold cutL; rw [h2]; rfl
    have E1 := Lib.hid e1
    have H1 := Lib.hid h1
    clear h1 h2 e1
    go_enter Tryd.func73, Tryd.ntmps73
    go_wp2_with fail
    refine (H.out _).mono ?_
    rintro e w' ⟨rfl, rfl⟩
    rw [show Lib.indexByte s.data.toList c = -1 from H1.out]
    go_wp2_with fail
    go_ret3
    exact ⟨by rw [E1.out, mkS_bs]; rfl, 0, rfl⟩
  · have e1 : cutL c (bs s) = ((bs s).take i, (bs s).drop (i + 1), true) := by unfold cutL; rw [h2, if_pos rfl, h3, h4]
    rw [length_bs] at hi
    have E1 := Lib.hid e1
    have H1 := Lib.hid h1
    clear h1 h2 h3 h4 e1
    have c1 : (0 : Int) ≤ ↑i := by omega
    have c2 : (↑i : Int) ≤ ↑s.size := by omega
    have c3 : (0 : Int) ≤ ↑i + 1 := by omega
    have c4 : (↑i + 1 : Int) ≤ ↑s.size := by omega
    go_enter Tryd.func73, Tryd.ntmps73
    go_wp2_with fail
    refine (H.out _).mono ?_
    rintro e w' ⟨rfl, rfl⟩
    rw [show Lib.indexByte s.data.toList c = (i : Int) from H1.out]
    go_wp2_with fail
    go_quiet (fail)
    go_wp2
    go_ret3
    refine ⟨?_, _, rfl⟩
    rw [E1.out]
    have a1 : s.extract 0 i = mkS ((bs s).take i) := by rw [extract_mkS]; simp
    have a2 : s.extract (i + 1) s.size = mkS ((bs s).drop (i + 1)) := by
      rw [extract_mkS, List.take_of_length_le (by rw [List.length_drop, length_bs]; exact Nat.le_refl _)]
    simp only [← a1, ← a2]
    rfl

set_option maxHeartbeats 1000000 in
theorem cut_any (s : ByteArray) (c : UInt8) (w : World) (hs : s.size ≤ 1099511627776) :
    Calls Tryd.prog 54 #[.string s, .string ⟨#[c]⟩] w (CutPost c (bs s) w) := by
  have H := Lib.hid (slcut_any s c w hs)
  go_enter Tryd.func54, Tryd.ntmps54
  go_wp2_with fail
  refine H.out.mono ?_
  rintro e w' ⟨rfl, hn⟩
  have HN := Lib.hid hn
  clear hn
  go_wp2_with fail
  go_ret3
  exact ⟨rfl, HN.out⟩
end Tk
end Go.Proofs.YtajmheblbnodjaaDoor
