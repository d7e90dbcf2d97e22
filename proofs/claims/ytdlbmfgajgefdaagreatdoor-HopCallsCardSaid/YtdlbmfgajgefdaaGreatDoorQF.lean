/- ChkN EmB EmC EmK, put together. -/
import Derived.Test.YtdlbmfgajgefdaaGreatDoorQE
import Derived.Test.YtdlbmfgajgefdaaGreatDoorQB
namespace Go.Proofs.YtdlbmfgajgefdaaGreatDoor
open Go.RowKit
namespace Tk

set_option maxHeartbeats 1000000 in
set_option maxRecDepth 100000 in
theorem ifmt_any (n : Nat) (B : Nat) (w : World) (h : Bruijn B w) (hn : n < 4096) :
    Calls Tryz.prog 127 #[.int .i64 n, .int .i64 16] w fun e w' => e = .returned (.string (mkS (hexL n))) ∧ Below w.heap.size w w' := by
  have H := Lib.hid (fmtBits_any n B w h hn)
  have b1 : ¬ (n : Int) < 0 := by omega
  have b2 : (n : Int) < 4096 := by omega
  clear h hn
  go_enter Tryz.func127, Tryz.ntmps127
  go_wp2_with fail
  refine H.out.mono ?_
  rintro e w' ⟨rfl, hb⟩
  have HB := Lib.hid hb
  clear hb
  go_wp2_with fail
  go_ret
  exact ⟨rfl, HB.out⟩
set_option maxHeartbeats 1000000 in
set_option maxRecDepth 100000 in
theorem fmt_any (n : Nat) (B : Nat) (w : World) (h : Bruijn B w) (hn : n < 4096) :
    Calls Tryz.prog 112 #[.int .i64 n, .int .i64 16] w fun e w' => e = .returned (.string (mkS (hexL n))) ∧ Below w.heap.size w w' := by
  have H := Lib.hid (ifmt_any n B w h hn)
  clear h hn
  go_enter Tryz.func112, Tryz.ntmps112
  go_wp2_with fail
  refine H.out.mono ?_
  rintro e w' ⟨rfl, hb⟩
  have HB := Lib.hid hb
  clear hb
  go_wp2_with fail
  go_ret
  exact ⟨rfl, HB.out⟩

/-- the size of a chunk that Encode takes -/
def encK (size : Int) (body : Bs) : Nat := if size < 1 then body.length else size.toNat
def EncPost (body : Bs) (size : Int) (l : List (Bs × Bs)) (w : World) (e : Ending) (w' : World) : Prop :=
  e = .returned (.tuple #[.string (mkS (if okFs l then encL (encK size body) body (linesF l) else [])), .int .i64 (byE l)]) ∧ Below w.heap.size w w'

theorem chunks_len (k : Nat) : ∀ (n : Nat) (l : Bs), l.length ≤ n → l.length < 4096 → (chunksL k l).length ≤ 8 * l.length
  | 0, l, h, h2 => by
    have : l = [] := List.eq_nil_of_length_eq_zero (by omega)
    subst this; rw [chunksL_nil]; simp
  | n + 1, l, h, h2 => by
    by_cases he : l = []
    · subst he; rw [chunksL_nil]; simp
    · by_cases hk : k = 0
      · subst hk; rw [chunksL]; simp
      · have hp := List.length_pos_iff.2 he
        have hd := chunks_len k n (l.drop k) (by simp; omega) (by simp; omega)
        have hx := hexF_len hexc 2 (l.take k).length (by simp; omega)
        have htl : (l.take k).length + (l.drop k).length = l.length := by rw [← List.length_append, List.take_append_drop]
        have ht : 0 < (l.take k).length := by rw [List.length_take]; omega
        rw [chunksL_cons k l he hk]
        simp only [List.length_append, List.length_cons, List.length_nil]
        show (hexF hexc (l.take k).length).length + 2 + (l.take k).length + 2 + (chunksL k (l.drop k)).length ≤ _
        omega

def strLen : Value → Nat
  | .string s => s.size
  | _ => 0
theorem two1310 : (ByteArray.mk #[13, 10]).size = 2 := rfl
theorem three0 : (ByteArray.mk #[48, 13, 10]).size = 3 := rfl

set_option maxHeartbeats 1000000 in
set_option maxRecDepth 100000 in
theorem encode_no (body : ByteArray) (size : Int) (v : Value) (l : List (Bs × Bs)) (w : World) (hs : IsFlds w v l) (hz : sumF l ≤ 1099511) (hl : l.length ≤ 1099511) (hok : okFs l = false) :
    Calls Tryz.prog 78 #[.string body, .int .i64 size, v] w (EncPost (bs body) size l w) := by
  have h := bytes_any v l w hs (by omega) (by omega)
  have e1 : byN l = [] := by unfold byN; rw [hok]; rfl
  have e2 : byE l = 4 := by unfold byE; rw [hok]; rfl
  unfold BytesPost at h
  unfold EncPost
  rw [e1, e2] at h
  rw [e2, hok]
  have H := Lib.hid h
  obtain ⟨a, cap, rfl⟩ : ∃ a cap, v = .slice a l.length cap := by obtain ⟨a, c, h, -⟩ := hs; exact ⟨a, c, h⟩
  clear h hs hz hl hok e1 e2
  go_enter Tryz.func78, Tryz.ntmps78
  go_wp2_with fail
  refine H.out.mono ?_
  rintro e w1 ⟨rfl, hb⟩
  have HB := Lib.hid hb
  clear hb
  go_wp2_with fail
  go_ret2
  exact ⟨rfl, HB.out⟩

set_option maxHeartbeats 8000000 in
set_option maxRecDepth 100000 in
theorem encode_ok (body : ByteArray) (size : Int) (k : Nat) (v : Value) (l : List (Bs × Bs)) (w : World) (hs : IsFlds w v l) (hz : sumF l ≤ 1099511) (hl : l.length ≤ 1099511) (hok : okFs l = true) (hbz : body.size ≤ 400) (hB : Bruijn w.heap.size w)
    (hsz : (size < 1 ∧ k = body.size) ∨ (¬ size < 1 ∧ size = (k : Int) ∧ size ≤ 9223372036854775807)) :
    Calls Tryz.prog 78 #[.string body, .int .i64 size, v] w fun e w' => e = .returned (.tuple #[.string (mkS (encL k (bs body) (linesF l))), .int .i64 0]) ∧ Below w.heap.size w w' := by
  have h := bytes_any v l w hs (by omega) (by omega)
  have e1 : byN l = linesF l := by unfold byN; rw [hok]; rfl
  have e2 : byE l = 0 := by unfold byE; rw [hok]; rfl
  unfold BytesPost at h
  rw [e1, e2] at h
  have hll := lines_len l
  have hk0 : k ≠ 0 ∨ bs body = [] := by
    rcases hsz with ⟨h1, h2⟩ | ⟨h1, h2, h3⟩
    · by_cases h0 : body.size = 0
      · exact .inr (List.eq_nil_of_length_eq_zero (by rw [length_bs]; exact h0))
      · exact .inl (by omega)
    · exact .inl (by omega)
  have HK0 := Lib.hid hk0
  have H := Lib.hid h
  have HLL := Lib.hid (show (linesF l).length ≤ 1099511 by omega)
  have hlen := length_bs body
  have HCL := Lib.hid (chunks_len k _ (bs body) (Nat.le_refl _) (by omega))
  have HLen := Lib.hid hlen
  have HBj := Lib.hid hB
  have hpos : (0 : Int) ≤ (k : Int) ∧ (k : Int) ≤ 9223372036854775807 := by rcases hsz with h | h <;> omega
  obtain ⟨hk1, hk2⟩ := hpos
  have HR := Lib.hid (show encL k (bs body) (linesF l) = chunksL k (bs body) ++ [48, 13, 10] ++ linesF l ++ [13, 10] from rfl)
  generalize linesF l = F at *
  obtain ⟨a, cap, rfl⟩ : ∃ a cap, v = .slice a l.length cap := by obtain ⟨a, c, h, -⟩ := hs; exact ⟨a, c, h⟩
  have hbz2 : body.size ≤ 400 := hbz
  clear h hs hz hl hok e1 e2 hll hk0 hlen hB
  rcases hsz with ⟨h1, h2⟩ | ⟨h1, h2, h3⟩
  all_goals
    first | (clear h3; subst h2) | skip
    go_enter Tryz.func78, Tryz.ntmps78
    go_wp2_with fail
    refine H.out.mono ?_
    rintro e w1 ⟨rfl, hb⟩
    have HB1 := Lib.hid hb
    have HBj1 := Lib.hid (HBj.out.later hb)
    have hB0 := Lib.hid (Lib.fresh_isBuilder 86 5 w1)
    have HB2 := Lib.hid (show Below w1.heap.size w1 (w1.alloc (Obj.cells #[Value.pointer none, Value.slice none 0 0] 86)) from (Below.refl _ _).alloc (Nat.le_refl _) _)
    have hsz1 : w1.heap.size ≤ (w1.alloc (Obj.cells #[Value.pointer none, Value.slice none 0 0] 86)).heap.size := by simp
    have HSw := Lib.hid hb.size
    clear hb
    go_wp2_with fail
    generalize w1.alloc (Obj.cells #[Value.pointer none, Value.slice none 0 0] 86) = W at *
    generalize hgw : w1.heap.size = B at *
    have HGW := Lib.hid hgw
    clear hgw
    try rw [← h2]
    try clear h2
    go_loopw [0] (fun v0 wr => ∃ (r p : Bs), v0 = .string (mkS r) ∧ r.length ≤ body.size ∧ Hid (chunksL k (bs body) = p ++ chunksL k r) ∧ Hid (IsB B B p wr) ∧ Hid (Below B w1 wr) ∧ B ≤ wr.heap.size) (fun v0 _ => strLen v0)
    case atStart => exact ⟨bs body, [], by rw [mkS_bs], by rw [HLen.out]; exact Nat.le_refl _, rfl, hB0.out, HB2.out, hsz1⟩
    case round =>
      obtain ⟨r, p, rfl, hr, hch, hI, hB3, hBw⟩ := hrel
      rename World => W3
      have hpl : p.length ≤ 8 * (bs body).length := by
        have h1 := HCL.out
        rw [hch.out, List.length_append] at h1
        omega
      have HPL := Lib.hid (show p.length ≤ 3200 by rw [HLen.out] at hpl; omega)
      clear hpl
      by_cases hrn : r = []
      · subst hrn
        have hc2 : chunksL k (bs body) = p := by rw [hch.out, chunksL_nil, List.append_nil]
        have HC2 := Lib.hid hc2
        clear hc2
        have hemp : ((mkS ([] : Bs)).toList == ([] : List UInt8)) = true := by rw [toList_bs, bs_mkS]; rfl
        have hemp2 : (mkS ([] : Bs)).toList.isEmpty = true := by rw [toList_bs, bs_mkS]; rfl
        have H1 := Lib.hid (writeString B B p ⟨#[48, 13, 10]⟩ W3 hI.out (by rw [three0]; have := HPL.out; omega) hBw)
        clear hch
        go_wp2_with fail
        refine H1.out.mono ?_
        rintro e w4 ⟨rfl, hi4, hb4, -⟩
        have HB4 := Lib.hid (hB3.out.trans hb4)
        have hs4 := Nat.le_trans hBw hb4.size
        have H2 := Lib.hid (writeString B B _ (mkS F) w4 hi4 (by rw [List.length_append, length_bs, three0, size_mkS]; have := HPL.out; have := HLL.out; omega) hs4)
        clear hi4 hb4
        go_wp2_with fail
        refine H2.out.mono ?_
        rintro e w5 ⟨rfl, hi5, hb5, -⟩
        have HB5 := Lib.hid (HB4.out.trans hb5)
        have hs5 := Nat.le_trans hs4 hb5.size
        have H3 := Lib.hid (writeString B B _ ⟨#[13, 10]⟩ w5 hi5 (by rw [List.length_append, List.length_append, length_bs, length_bs, three0, size_mkS, two1310]; have := HPL.out; have := HLL.out; omega) hs5)
        clear hi5 hb5
        go_wp2_with fail
        refine H3.out.mono ?_
        rintro e w6 ⟨rfl, hi6, hb6, -⟩
        have HB6 := Lib.hid (HB5.out.trans hb6)
        have hs6 := Nat.le_trans hs5 hb6.size
        have H4 := Lib.hid (Tryz.Builder_String_any B B _ w6 hi6 hs6)
        clear hi6 hb6
        go_wp2_with fail
        refine H4.out.mono ?_
        rintro e w7 ⟨rfl, hb7⟩
        have HB7 := Lib.hid (HB6.out.trans hb7)
        clear hb7
        go_wp2_with fail
        go_ret2
        refine ⟨?_, HB1.out.trans (HB7.out.mono HSw.out)⟩
        rw [HR.out, HC2.out]
        simp only [List.append_assoc]
        rfl
      · have hrp : 0 < r.length := List.length_pos_iff.2 hrn
        have hk0 : k ≠ 0 := by
          rcases HK0.out with h | h
          · exact h
          · have := HLen.out
            rw [h] at this
            have h0 : body.size = 0 := by simpa using this.symm
            omega
        obtain ⟨m, hm⟩ : ∃ m, m = min k r.length := ⟨_, rfl⟩
        have hm1 : m ≤ r.length := by omega
        have hm0 : 0 < m := by omega
        have htk : r.take k = r.take m := by
          rcases Nat.le_total k r.length with h | h
          · rw [hm, Nat.min_eq_left h]
          · rw [hm, Nat.min_eq_right h, List.take_of_length_le h, List.take_length]
        have hdk : r.drop k = r.drop m := by
          rcases Nat.le_total k r.length with h | h
          · rw [hm, Nat.min_eq_left h]
          · rw [hm, Nat.min_eq_right h, List.drop_of_length_le h, List.drop_length]
        have hcc := chunksL_cons k r hrn hk0
        rw [htk, hdk, List.length_take, Nat.min_eq_left hm1] at hcc
        have hnx : chunksL k (bs body) = (p ++ hexL m ++ [13, 10] ++ r.take m ++ [13, 10]) ++ chunksL k (r.drop m) := by
          rw [hch.out, hcc]; simp only [List.append_assoc]
        have HNX := Lib.hid hnx
        have zr : (mkS r).size = r.length := size_mkS r
        have hmin : min (k : Int) ((mkS r).size : Int) = (m : Int) := by rw [zr]; omega
        have hx1 : bs ((mkS r).extract 0 m) = r.take m := by rw [bs_extract, bs_mkS]; simp
        have hx2 : (mkS r).extract m (mkS r).size = mkS (r.drop m) := by
          rw [extract_mkS, bs_mkS, zr, List.take_of_length_le (by rw [List.length_drop]; exact Nat.le_refl _)]
        have hemp : ((mkS r).toList == ([] : List UInt8)) = false := by
          rw [toList_bs, bs_mkS]; cases r with | nil => exact absurd rfl hrn | cons _ _ => rfl
        have hemp2 : (mkS r).toList.isEmpty = false := by
          rw [toList_bs, bs_mkS]; cases r with | nil => exact absurd rfl hrn | cons _ _ => rfl
        have hhx : (hexF hexc m).length ≤ 3 := hexF_len hexc 2 m (by omega)
        have h63 : (mkS (hexF hexc m)).size + 2 ≤ 9223372036854775807 := by rw [size_mkS]; omega
        have HX2 := Lib.hid hx2
        have HX1 := Lib.hid hx1
        have HM := Lib.hid (show 0 < m ∧ m ≤ r.length ∧ r.length ≤ body.size ∧ (hexF hexc m).length ≤ 3 from ⟨hm0, hm1, hr, hhx⟩)
        have HFm := Lib.hid (fmt_any m w.heap.size W3 (HBj1.out.later (hB3.out.mono HSw.out)) (by omega))
        have m1 : (0 : Int) ≤ (m : Int) := by omega
        have m2 : (m : Int) ≤ ((mkS r).size : Int) := by rw [zr]; omega
        have m3 : (m : Int) ≤ 400 := by omega
        have hIW := Lib.hid hI.out
        change Hid (Calls Tryz.prog 112 #[.int .i64 m, .int .i64 16] W3 fun e w' => e = .returned (.string (mkS (hexF hexc m))) ∧ Below W3.heap.size W3 w') at HFm
        change Hid (chunksL k (bs body) = (p ++ hexF hexc m ++ [13, 10] ++ r.take m ++ [13, 10]) ++ chunksL k (r.drop m)) at HNX
        clear hch hcc hnx htk hdk hx1 hx2 hm hm0 hm1 hhx hrn hrp zr hr
        generalize hexF hexc m = X at *
        generalize hR : mkS r = R at *
        go_wp2_with fail
        refine HFm.out.mono ?_
        rintro e w4 ⟨rfl, hb⟩
        have hI4 := isB_below hIW.out hb
        have HB4 := Lib.hid (hB3.out.trans (hb.mono hBw))
        have hs4 := Nat.le_trans hBw hb.size
        have H1 := Lib.hid (writeString B B p (mkS X ++ ⟨#[13, 10]⟩) w4 hI4 (by rw [ByteArray.size_append, size_mkS, two1310]; have := HPL.out; have := HM.out; omega) hs4)
        clear hb hI4
        go_wp2_with fail
        refine H1.out.mono ?_
        rintro e w5 ⟨rfl, hi5, hb5, -⟩
        have HB5 := Lib.hid (HB4.out.trans hb5)
        have hs5 := Nat.le_trans hs4 hb5.size
        have H2 := Lib.hid (writeString B B _ (R.extract 0 m) w5 hi5 (by rw [List.length_append, length_bs, ByteArray.size_append, size_mkS, two1310, ← length_bs (R.extract 0 m), HX1.out, List.length_take]; have := HPL.out; have := HM.out; omega) hs5)
        clear hi5 hb5
        go_wp2_with fail
        refine H2.out.mono ?_
        rintro e w6 ⟨rfl, hi6, hb6, -⟩
        have HB6 := Lib.hid (HB5.out.trans hb6)
        have hs6 := Nat.le_trans hs5 hb6.size
        have H3 := Lib.hid (writeString B B _ ⟨#[13, 10]⟩ w6 hi6 (by rw [List.length_append, List.length_append, length_bs, ByteArray.size_append, size_mkS, two1310, HX1.out, List.length_take]; have := HPL.out; have := HM.out; omega) hs6)
        clear hi6 hb6
        go_wp2_with fail
        refine H3.out.mono ?_
        rintro e w7 ⟨rfl, hi7, hb7, -⟩
        have HB7 := Lib.hid (HB6.out.trans hb7)
        have hs7 := Nat.le_trans hs6 hb7.size
        have HI7 : Hid (IsB B B (p ++ X ++ [13, 10] ++ r.take m ++ [13, 10]) w7) := by
          have h := hi7
          rw [HX1.out] at h
          have e1 : bs (mkS X ++ ⟨#[13, 10]⟩) = X ++ [13, 10] := by rw [show (mkS X ++ ⟨#[13, 10]⟩ : ByteArray) = mkS (X ++ [13, 10]) from mkS_append _ [13, 10], bs_mkS]
          rw [e1, ← List.append_assoc] at h
          exact h
        clear hi7 hb7
        go_wp2_with fail
        have hx2 := HX2.out
        rw [hx2]
        exact ⟨⟨r.drop m, p ++ X ++ [13, 10] ++ r.take m ++ [13, 10], rfl, by rw [List.length_drop]; have := HM.out; omega, HNX, HI7, HB7, hs7⟩, by
          show (mkS (r.drop m)).size < R.size
          rw [size_mkS, List.length_drop, ← hR, size_mkS]; have := HM.out; omega⟩

theorem encode_any (body : ByteArray) (size : Int) (v : Value) (l : List (Bs × Bs)) (w : World) (hs : IsFlds w v l) (hz : sumF l ≤ 1099511) (hl : l.length ≤ 1099511) (hbz : body.size ≤ 400) (hB : Bruijn w.heap.size w) (hsz : size ≤ 9223372036854775807) :
    Calls Tryz.prog 78 #[.string body, .int .i64 size, v] w (EncPost (bs body) size l w) := by
  cases hok : okFs l
  · exact encode_no body size v l w hs hz hl hok
  · refine (encode_ok body size (encK size (bs body)) v l w hs hz hl hok hbz hB ?_).mono ?_
    · unfold encK
      by_cases h1 : size < 1
      · rw [if_pos h1, length_bs]; exact .inl ⟨h1, rfl⟩
      · rw [if_neg h1]; exact .inr ⟨h1, by omega, hsz⟩
    · rintro e w' ⟨rfl, hb⟩
      unfold EncPost
      rw [hok]
      have e2 : byE l = 0 := by unfold byE; rw [hok]; rfl
      rw [e2]
      exact ⟨rfl, hb⟩
end Tk
end Go.Proofs.YtdlbmfgajgefdaaGreatDoor
namespace Go.Proofs.YtdlbmfgajgefdaaGreatDoor
open Go.RowKit
namespace Tk

set_option maxHeartbeats 1000000 in
set_option maxRecDepth 100000 in
theorem wField_any (Bd b : Nat) (l : Bs) (n v : ByteArray) (w : World) (h : IsB Bd b l w) (hlen : l.length + n.size + v.size ≤ 1000000) (hBw : Bd ≤ w.heap.size) :
    Calls Tryz.prog 79 #[.pointer (some ⟨b, 0, none⟩), .string n, .string v] w fun e w' => e = .returned (.tuple #[]) ∧ IsB Bd b (l ++ bs n ++ [58, 32] ++ bs v ++ [13, 10]) w' ∧ Below Bd w w' := by
  have H1 := Lib.hid (writeString Bd b l n w h (by omega) hBw)
  have H2 := Lib.hid (fun (W : World) (hi : IsB Bd b (l ++ bs n) W) (hs : Bd ≤ W.heap.size) => writeString Bd b _ ⟨#[58, 32]⟩ W hi (by rw [List.length_append, length_bs]; show _ + 2 ≤ _; omega) hs)
  have H3 := Lib.hid (fun (W : World) (hi : IsB Bd b (l ++ bs n ++ [58, 32]) W) (hs : Bd ≤ W.heap.size) => writeString Bd b _ v W hi (by rw [List.length_append, List.length_append, length_bs]; show _ + 2 + _ ≤ _; omega) hs)
  have H4 := Lib.hid (fun (W : World) (hi : IsB Bd b (l ++ bs n ++ [58, 32] ++ bs v) W) (hs : Bd ≤ W.heap.size) => writeString Bd b _ ⟨#[13, 10]⟩ W hi (by rw [List.length_append, List.length_append, List.length_append, length_bs, length_bs]; show _ + 2 + _ + 2 ≤ _; omega) hs)
  clear h hlen
  go_enter Tryz.func79, Tryz.ntmps79
  go_wp2_with fail
  refine H1.out.mono ?_
  rintro e w1 ⟨rfl, hi1, hb1, -⟩
  have HB1 := Lib.hid hb1
  have HC1 := Lib.hid (H2.out w1 hi1 (Nat.le_trans hBw hb1.size))
  clear hi1 hb1
  go_wp2_with fail
  refine HC1.out.mono ?_
  rintro e w2 ⟨rfl, hi2, hb2, -⟩
  have HB2 := Lib.hid (HB1.out.trans hb2)
  have HC2 := Lib.hid (H3.out w2 hi2 (Nat.le_trans hBw HB2.out.size))
  clear hi2 hb2
  go_wp2_with fail
  refine HC2.out.mono ?_
  rintro e w3 ⟨rfl, hi3, hb3, -⟩
  have HB3 := Lib.hid (HB2.out.trans hb3)
  have HC3 := Lib.hid (H4.out w3 hi3 (Nat.le_trans hBw HB3.out.size))
  clear hi3 hb3
  go_wp2_with fail
  refine HC3.out.mono ?_
  rintro e w4 ⟨rfl, hi4, hb4, -⟩
  have HB4 := Lib.hid (HB3.out.trans hb4)
  have HI4 := Lib.hid hi4
  clear hi4 hb4
  go_wp2_with fail
  go_end0
  exact ⟨rfl, HI4.out, HB4.out⟩

set_option maxHeartbeats 1000000 in
set_option maxRecDepth 100000 in
theorem wContent_any (Bd b : Nat) (l : Bs) (c : ByteArray) (w : World) (h : IsB Bd b l w) (hlen : l.length + c.size ≤ 1000000) (hBw : Bd ≤ w.heap.size) :
    Calls Tryz.prog 73 #[.pointer (some ⟨b, 0, none⟩), .string c] w fun e w' => e = .returned (.tuple #[]) ∧ IsB Bd b (l ++ [13, 10] ++ bs c) w' ∧ Below Bd w w' := by
  have H1 := Lib.hid (writeString Bd b l ⟨#[13, 10]⟩ w h (by show _ + 2 ≤ _; omega) hBw)
  have H2 := Lib.hid (fun (W : World) (hi : IsB Bd b (l ++ [13, 10]) W) (hs : Bd ≤ W.heap.size) => writeString Bd b _ c W hi (by rw [List.length_append]; show _ + 2 + _ ≤ _; omega) hs)
  clear h hlen
  go_enter Tryz.func73, Tryz.ntmps73
  go_wp2_with fail
  refine H1.out.mono ?_
  rintro e w1 ⟨rfl, hi1, hb1, -⟩
  have HB1 := Lib.hid hb1
  have HC1 := Lib.hid (H2.out w1 hi1 (Nat.le_trans hBw hb1.size))
  clear hi1 hb1
  go_wp2_with fail
  refine HC1.out.mono ?_
  rintro e w2 ⟨rfl, hi2, hb2, -⟩
  have HB2 := Lib.hid (HB1.out.trans hb2)
  have HI2 := Lib.hid hi2
  clear hi2 hb2
  go_wp2_with fail
  go_end0
  exact ⟨rfl, HI2.out, HB2.out⟩

theorem digL_le (n : Nat) (h : n < 10 ^ 19) : (digL n).length ≤ 19 := by
  have key : ∀ (k n : Nat), n < 10 ^ (k + 1) → (digL n).length ≤ k + 1 := by
    intro k
    induction k with
    | zero => intro n h; rw [digL, dif_pos (by simpa using h)]; simp
    | succ k ih =>
      intro n h
      rw [digL]
      split
      · simp
      · have := ih (n / 10) (by rw [Nat.pow_succ] at h; omega)
        simp; omega
  exact key 18 n h

set_option maxHeartbeats 1000000 in
set_option maxRecDepth 100000 in
theorem wLength_any (Bd b : Nat) (l : Bs) (c : ByteArray) (w : World) (hT : Tens w) (h : IsB Bd b l w) (hlen : l.length ≤ 900000) (hc : c.size ≤ 1000000) (hBw : Bd ≤ w.heap.size) :
    Calls Tryz.prog 72 #[.pointer (some ⟨b, 0, none⟩), .string c] w fun e w' => e = .returned (.tuple #[]) ∧ IsB Bd b (l ++ lnL c.size) w' ∧ Below Bd w w' := by
  have hd := digL_le c.size (by omega)
  have HI := Lib.hid (itoa_any c.size w hT (by omega))
  have HW := Lib.hid (fun (W : World) (hb : Below w.heap.size w W) => wField_any Bd b l ⟨#[67, 111, 110, 116, 101, 110, 116, 45, 76, 101, 110, 103, 116, 104]⟩ (mkS (digL c.size)) W (isB_below h hb) (by rw [size_mkS]; show _ + 14 + _ ≤ _; omega) (Nat.le_trans hBw hb.size))
  have HE : Hid (l ++ bs ⟨#[67, 111, 110, 116, 101, 110, 116, 45, 76, 101, 110, 103, 116, 104]⟩ ++ [58, 32] ++ bs (mkS (digL c.size)) ++ [13, 10] = l ++ lnL c.size) := by
    show _ = _
    rw [bs_mkS]
    unfold lnL
    simp only [List.append_assoc]
    rfl
  rw [HE.out] at HW
  have hk : c.size ≤ 9223372036854775807 := by omega
  clear hT h hlen hd
  generalize lnL c.size = L at *
  generalize mkS (digL c.size) = D at *
  go_enter Tryz.func72, Tryz.ntmps72
  go_wp2_with fail
  refine HI.out.mono ?_
  rintro e w1 ⟨rfl, hb1⟩
  have HB1 := Lib.hid (hb1.mono hBw)
  have HC1 := Lib.hid (HW.out w1 hb1)
  clear hb1
  go_wp2_with fail
  refine HC1.out.mono ?_
  rintro e w2 ⟨rfl, hi2, hb2⟩
  have HB2 := Lib.hid (HB1.out.trans hb2)
  have HI2 := Lib.hid hi2
  clear hi2 hb2
  go_wp2_with fail
  go_end0
  exact ⟨rfl, HI2.out, HB2.out⟩

/-- what a builder has behind writeHead -/
def hdW (M T : Bs) (s : Int) (R : Bs) (mi : Int) (l tl : List (Bs × Bs)) : Bs := if hdE M T s R mi l tl = 0 then hdS M T s R mi l else []
theorem byE_two (l : List (Bs × Bs)) : (okFs l = true ∧ byE l = 0 ∧ byN l = linesF l) ∨ (okFs l = false ∧ byE l = 4) := by
  unfold byE byN
  cases h : okFs l
  · exact .inr ⟨rfl, rfl⟩
  · exact .inl ⟨rfl, rfl, rfl⟩
theorem hd_bad {M T : Bs} {s : Int} {R : Bs} {mi : Int} {l tl : List (Bs × Bs)} (h : ¬ (flE M T s R mi = 0 ∧ okFs l = true ∧ okFs tl = true)) : hdE M T s R mi l tl = 4 ∧ hdW M T s R mi l tl = [] := by
  have e : hdE M T s R mi l tl = 4 := by unfold hdE; rw [if_neg h]
  exact ⟨e, by unfold hdW; rw [e]; rfl⟩
theorem hd_end {M T : Bs} {s : Int} {R : Bs} {mi : Int} {l tl : List (Bs × Bs)} (h : flE M T s R mi = 0 ∧ okFs l = true ∧ okFs tl = true) (h2 : endB l = true) : hdE M T s R mi l tl = 6 ∧ hdW M T s R mi l tl = [] := by
  have e : hdE M T s R mi l tl = 6 := by unfold hdE; rw [if_pos h, if_pos h2]
  exact ⟨e, by unfold hdW; rw [e]; rfl⟩
theorem hd_ok {M T : Bs} {s : Int} {R : Bs} {mi : Int} {l tl : List (Bs × Bs)} (h : flE M T s R mi = 0 ∧ okFs l = true ∧ okFs tl = true) (h2 : endB l = false) : hdE M T s R mi l tl = 0 ∧ hdW M T s R mi l tl = hdS M T s R mi l := by
  have e : hdE M T s R mi l tl = 0 := by unfold hdE; rw [if_pos h, if_neg (by simp [h2])]
  exact ⟨e, by unfold hdW; rw [e]; rfl⟩
def HdPost (Bd b : Nat) (E : Int) (S : Bs) (w : World) (e : Ending) (w' : World) : Prop := e = .returned (.int .i64 E) ∧ IsB Bd b S w' ∧ Below Bd w w'

set_option maxHeartbeats 8000000 in
set_option maxRecDepth 100000 in
theorem writeHead_core (Bd b : Nat) (M T : ByteArray) (s : Int) (R : ByteArray) (mi : Int) (vf : Value) (B : ByteArray) (vt : Value) (l tl : List (Bs × Bs)) (X : Bs) (E E1 E2 : Int) (Y Z : Bs) (q : Bool) (w : World) (h : IsB Bd b [] w) (hBw : Bd ≤ w.heap.size)
    (hvf : ∃ a c, vf = .slice a l.length c) (hvt : ∃ a c, vt = .slice a tl.length c)
    (HF : Hid (∀ W, Below w.heap.size w W → Calls Tryz.prog 106 #[.agg (msgC M T s R mi vf B vt)] W fun e w' => e = .returned (.tuple #[.string (mkS X), .int .i64 E]) ∧ Below W.heap.size W w'))
    (HY : Hid (∀ W, Below w.heap.size w W → Calls Tryz.prog 107 #[vf] W fun e w' => e = .returned (.tuple #[.string (mkS Y), .int .i64 E1]) ∧ Below W.heap.size W w'))
    (HZ : Hid (∀ W, Below w.heap.size w W → Calls Tryz.prog 107 #[vt] W fun e w' => e = .returned (.tuple #[.string (mkS Z), .int .i64 E2]) ∧ Below W.heap.size W w'))
    (HG : Hid (∀ W, Below w.heap.size w W → Calls Tryz.prog 108 #[vf] W fun e w' => e = .returned (.bool q) ∧ Below W.heap.size W w'))
    (hX : X.length ≤ 100000) (hY : Y.length ≤ 100000) (G : Int) (S : Bs)
    (hc : (E = 4 ∧ G = 4 ∧ S = []) ∨ (E = 0 ∧ E1 = 4 ∧ G = 4 ∧ S = []) ∨ (E = 0 ∧ E1 = 0 ∧ E2 = 4 ∧ G = 4 ∧ S = []) ∨ (E = 0 ∧ E1 = 0 ∧ E2 = 0 ∧ q = true ∧ G = 6 ∧ S = []) ∨ (E = 0 ∧ E1 = 0 ∧ E2 = 0 ∧ q = false ∧ G = 0 ∧ S = X ++ [13, 10] ++ Y)) :
    Calls Tryz.prog 69 #[.pointer (some ⟨b, 0, none⟩), .agg (msgC M T s R mi vf B vt)] w (HdPost Bd b G S w) := by
  have HX0 := Lib.hid (Box.new w 24 (msgC M T s R mi vf B vt))
  have HB0 := Lib.hid (below_alloc w (.cells (msgC M T s R mi vf B vt) 24))
  have HI := Lib.hid (fun (W : World) (hb : Below w.heap.size w W) => isB_below h hb)
  have c0 := HX0.out.cell 0 _ rfl
  have c1 := HX0.out.cell 1 _ rfl
  have c2 := HX0.out.cell 2 _ rfl
  have c3 := HX0.out.cell 3 _ rfl
  have c4 := HX0.out.cell 4 _ rfl
  have c5 := HX0.out.cell 5 _ rfl
  have c6 := HX0.out.cell 6 _ rfl
  have c7 := HX0.out.cell 7 _ rfl
  obtain ⟨a1, k1, rfl⟩ := hvf
  obtain ⟨a2, k2, rfl⟩ := hvt
  have HSz := Lib.hid (And.intro hX hY)
  clear h hX hY
  unfold HdPost
  unfold msgC at *
  rcases hc with ⟨rfl, rfl, rfl⟩ | ⟨rfl, rfl, rfl, rfl⟩ | ⟨rfl, rfl, rfl, rfl, rfl⟩ | ⟨rfl, rfl, rfl, rfl, rfl, rfl⟩ | ⟨rfl, rfl, rfl, rfl, rfl, rfl⟩
  all_goals
    go_enter Tryz.func69, Tryz.ntmps69
    go_wp2_with fail
    refine (HF.out _ HB0.out).mono ?_
    rintro e w1 ⟨rfl, hb⟩
    have HX1 := Lib.hid (HX0.out.later hb)
    have HB1 := Lib.hid (HB0.out.trans (hb.mono HB0.out.size))
    clear hb c0 c1 c2 c3 c4 c5 c6 c7
    have c5 := HX1.out.cell 5 _ rfl
    go_wp2_with fail
    refine (HY.out _ HB1.out).mono ?_
    rintro e w2 ⟨rfl, hb⟩
    have HX2 := Lib.hid (HX1.out.later hb)
    have HB2 := Lib.hid (HB1.out.trans (hb.mono HB1.out.size))
    clear hb c5
    have c7 := HX2.out.cell 7 _ rfl
    go_wp2_with fail
    refine (HZ.out _ HB2.out).mono ?_
    rintro e w3 ⟨rfl, hb⟩
    have HX3 := Lib.hid (HX2.out.later hb)
    have HB3 := Lib.hid (HB2.out.trans (hb.mono HB2.out.size))
    clear hb c7
    have c5 := HX3.out.cell 5 _ rfl
    go_wp2_with fail
  · go_ret
    exact ⟨rfl, HI.out _ HB3.out, HB3.out.mono hBw⟩
  · go_ret
    exact ⟨rfl, HI.out _ HB3.out, HB3.out.mono hBw⟩
  · go_ret
    exact ⟨rfl, HI.out _ HB3.out, HB3.out.mono hBw⟩
  · refine (HG.out _ HB3.out).mono ?_
    rintro e w4 ⟨rfl, hb⟩
    have HB4 := Lib.hid (HB3.out.trans (hb.mono HB3.out.size))
    clear hb
    go_wp2_with fail
    go_ret
    exact ⟨rfl, HI.out _ HB4.out, HB4.out.mono hBw⟩
  · refine (HG.out _ HB3.out).mono ?_
    rintro e w4 ⟨rfl, hb⟩
    have HB4 := Lib.hid (HB3.out.trans (hb.mono HB3.out.size))
    clear hb
    have H1 := Lib.hid (writeString Bd b [] (mkS X) w4 (HI.out _ HB4.out) (by rw [size_mkS]; have := HSz.out; simp; omega) (Nat.le_trans hBw HB4.out.size))
    go_wp2_with fail
    refine H1.out.mono ?_
    rintro e w5 ⟨rfl, hi, hb, -⟩
    have HB5 := Lib.hid ((HB4.out.mono hBw).trans hb)
    rw [bs_mkS, List.nil_append] at hi
    have H2 := Lib.hid (writeString Bd b _ ⟨#[13, 10]⟩ w5 hi (by show _ + 2 ≤ _; have := HSz.out; omega) (Nat.le_trans hBw HB5.out.size))
    clear hi hb
    go_wp2_with fail
    refine H2.out.mono ?_
    rintro e w6 ⟨rfl, hi, hb, -⟩
    have HB6 := Lib.hid (HB5.out.trans hb)
    have H3 := Lib.hid (writeString Bd b _ (mkS Y) w6 hi (by rw [size_mkS, List.length_append]; show _ + 2 + _ ≤ _; have := HSz.out; omega) (Nat.le_trans hBw HB6.out.size))
    clear hi hb
    go_wp2_with fail
    refine H3.out.mono ?_
    rintro e w7 ⟨rfl, hi, hb, -⟩
    have HB7 := Lib.hid (HB6.out.trans hb)
    rw [bs_mkS] at hi
    have HI7 := Lib.hid hi
    clear hi hb
    go_wp2_with fail
    go_ret
    exact ⟨rfl, HI7.out, HB7.out⟩

theorem flS_len (M T : Bs) (s : Int) (R : Bs) (mi : Int) (h : M.length + T.length + R.length ≤ 90000) : (flS M T s R mi).length ≤ 100000 := by
  unfold flS slS rlS
  split
  · split
    · split
      · unfold staLine vText
        have : (digL s.toNat).length ≤ 4 := by
          rename_i hb
          have h2 : 100 ≤ s ∧ s ≤ 599 := by
            unfold slB sInI at hb
            simp only [Bool.and_eq_true, decide_eq_true_eq] at hb
            exact hb.2.1
          rw [digL_three _ (by omega) (by omega)]; simp
        simp; omega
      · simp
    · simp
  · split
    · split
      · unfold reqLine vText
        simp; omega
      · simp
    · simp

theorem writeHead_any (Bd b : Nat) (M T : ByteArray) (s : Int) (R : ByteArray) (mi : Int) (vf : Value) (B : ByteArray) (vt : Value) (l tl : List (Bs × Bs)) (w : World) (h : IsB Bd b [] w) (hBw : Bd ≤ w.heap.size) (hTn : Tens w)
    (hs : IsFlds w vf l) (ht : IsFlds w vt tl) (hz : sumF l ≤ 90000) (hl : l.length ≤ 1048576) (hzt : sumF tl ≤ 90000) (hlt : tl.length ≤ 1048576) (hM : M.size + T.size + R.size ≤ 90000) :
    Calls Tryz.prog 69 #[.pointer (some ⟨b, 0, none⟩), .agg (msgC M T s R mi vf B vt)] w (HdPost Bd b (hdE (bs M) (bs T) s (bs R) mi l tl) (hdW (bs M) (bs T) s (bs R) mi l tl) w) := by
  have hX := flS_len (bs M) (bs T) s (bs R) mi (by rw [length_bs, length_bs, length_bs]; exact hM)
  have hll := lines_len l
  have hY : (byN l).length ≤ 100000 := by unfold byN; split; omega; simp
  refine writeHead_core Bd b M T s R mi vf B vt l tl (flS (bs M) (bs T) s (bs R) mi) (flE (bs M) (bs T) s (bs R) mi) (byE l) (byE tl) (byN l) (byN tl) (endB l) w h hBw
    (by obtain ⟨a, c, h, -⟩ := hs; exact ⟨a, c, h⟩) (by obtain ⟨a, c, h, -⟩ := ht; exact ⟨a, c, h⟩)
    (Lib.hid fun W hb => firstLine_any M T s R mi vf B vt W (hTn.later hb) (by omega) (by omega) (by omega)) (Lib.hid fun W hb => bytes_any vf l W (isFlds_below hs hb) (by omega) (by omega)) (Lib.hid fun W hb => bytes_any vt tl W (isFlds_below ht hb) (by omega) (by omega))
    (Lib.hid fun W hb => framed_any vf l W (isFlds_below hs hb) (by omega) hl) hX hY _ _ ?_
  rcases flE_two (bs M) (bs T) s (bs R) mi with h0 | ⟨h0, -⟩
  · rcases byE_two l with ⟨k1, k2, k3⟩ | ⟨k1, k2⟩
    · rcases byE_two tl with ⟨j1, j2, j3⟩ | ⟨j1, j2⟩
      · cases hq : endB l
        · have := hd_ok ⟨h0, k1, j1⟩ hq
          exact .inr (.inr (.inr (.inr ⟨h0, k2, j2, rfl, this.1, by rw [this.2, k3]; rfl⟩)))
        · have := hd_end ⟨h0, k1, j1⟩ hq
          exact .inr (.inr (.inr (.inl ⟨h0, k2, j2, rfl, this.1, this.2⟩)))
      · have := hd_bad (M := bs M) (T := bs T) (s := s) (R := bs R) (mi := mi) (l := l) (tl := tl) (fun hh => by rw [j1] at hh; exact absurd hh.2.2 (by simp))
        exact .inr (.inr (.inl ⟨h0, k2, j2, this.1, this.2⟩))
    · have := hd_bad (M := bs M) (T := bs T) (s := s) (R := bs R) (mi := mi) (l := l) (tl := tl) (fun hh => by rw [k1] at hh; exact absurd hh.2.1 (by simp))
      exact .inr (.inl ⟨h0, k2, this.1, this.2⟩)
  · have := hd_bad (M := bs M) (T := bs T) (s := s) (R := bs R) (mi := mi) (l := l) (tl := tl) (fun hh => by omega)
    exact .inl ⟨h0, this.1, this.2⟩
end Tk
end Go.Proofs.YtdlbmfgajgefdaaGreatDoor
namespace Go.Proofs.YtdlbmfgajgefdaaGreatDoor
open Go.RowKit
namespace Tk

theorem Box.under {w w' : World} {g n : Nat} {T : TypeId} {cs : Array Value} (h : Box w g T cs) (hb : Below n w w') (hg : g < n) : Box w' g T cs := (hb.block g hg).trans h

/-- what stands when a message's bytes are begun -/
theorem begun8 (M T : ByteArray) (s : Int) (R : ByteArray) (mi : Int) (vf : Value) (B : ByteArray) (vt : Value) (w : World) :
    Box ((w.alloc (.cells (msgC M T s R mi vf B vt) 24)).alloc (.cells #[.pointer none, .slice none 0 0] 86)) w.heap.size 24 (msgC M T s R mi vf B vt) ∧ IsB (w.heap.size + 1) (w.heap.size + 1) [] ((w.alloc (.cells (msgC M T s R mi vf B vt) 24)).alloc (.cells #[.pointer none, .slice none 0 0] 86)) ∧ Below w.heap.size w ((w.alloc (.cells (msgC M T s R mi vf B vt) 24)).alloc (.cells #[.pointer none, .slice none 0 0] 86)) ∧ w.heap.size + 1 ≤ ((w.alloc (.cells (msgC M T s R mi vf B vt) 24)).alloc (.cells #[.pointer none, .slice none 0 0] 86)).heap.size := by
  have hs1 : (w.alloc (.cells (msgC M T s R mi vf B vt) 24)).heap.size = w.heap.size + 1 := by simp
  have hX := Box.new w 24 (msgC M T s R mi vf B vt)
  have hB0 := below_alloc w (.cells (msgC M T s R mi vf B vt) 24)
  have hI := Lib.fresh_isBuilder 86 5 (w.alloc (.cells (msgC M T s R mi vf B vt) 24))
  rw [hs1] at hI
  refine ⟨hX.later (below_alloc _ _), hI, hB0.alloc hB0.size _, by simp⟩

theorem head8_any (M T : ByteArray) (s : Int) (R : ByteArray) (mi : Int) (vf : Value) (B : ByteArray) (vt : Value) (l tl : List (Bs × Bs)) (w : World) (hTn : Tens w)
    (hs : IsFlds w vf l) (ht : IsFlds w vt tl) (hz : sumF l ≤ 90000) (hl : l.length ≤ 1048576) (hzt : sumF tl ≤ 90000) (hlt : tl.length ≤ 1048576) (hM : M.size + T.size + R.size ≤ 90000) :
    Calls Tryz.prog 69 #[.pointer (some ⟨w.heap.size + 1, 0, none⟩), .agg (msgC M T s R mi vf B vt)] ((w.alloc (.cells (msgC M T s R mi vf B vt) 24)).alloc (.cells #[.pointer none, .slice none 0 0] 86)) (HdPost (w.heap.size + 1) (w.heap.size + 1) (hdE (bs M) (bs T) s (bs R) mi l tl) (hdW (bs M) (bs T) s (bs R) mi l tl) ((w.alloc (.cells (msgC M T s R mi vf B vt) 24)).alloc (.cells #[.pointer none, .slice none 0 0] 86))) := by
  obtain ⟨h1, h2, h3, h4⟩ := begun8 M T s R mi vf B vt w
  exact writeHead_any _ _ M T s R mi vf B vt l tl ((w.alloc (.cells (msgC M T s R mi vf B vt) 24)).alloc (.cells #[.pointer none, .slice none 0 0] 86)) h2 h4 (hTn.later h3) (isFlds_below hs h3) (isFlds_below ht h3) hz hl hzt hlt hM

theorem hdW_len (M T : Bs) (s : Int) (R : Bs) (mi : Int) (l tl : List (Bs × Bs)) (h : M.length + T.length + R.length ≤ 90000) (hz : sumF l ≤ 90000) : (hdW M T s R mi l tl).length ≤ 200000 := by
  have h1 := flS_len M T s R mi h
  have h2 := lines_len l
  unfold hdW hdS
  split
  · rw [List.length_append, List.length_append]; simp only [List.length_cons, List.length_nil]; omega
  · simp

theorem lnL_len (n : Nat) (h : n ≤ 1000000) : (lnL n).length ≤ 40 := by
  have := digL_le n (by omega)
  unfold lnL
  rw [List.length_append, List.length_append, List.length_append]
  show 14 + 2 + _ + 2 ≤ 40
  omega
/-- bytes, an error -/
def TxPost (S : Bs) (E : Int) (w : World) (e : Ending) (w' : World) : Prop := e = .returned (.tuple #[.string (mkS S), .int .i64 E]) ∧ Below w.heap.size w w'

set_option maxHeartbeats 4000000 in
set_option maxRecDepth 100000 in
theorem check8_any (M T : ByteArray) (s : Int) (R : ByteArray) (mi : Int) (vf : Value) (B : ByteArray) (vt : Value) (l tl : List (Bs × Bs)) (w : World) (hTn : Tens w)
    (hs : IsFlds w vf l) (ht : IsFlds w vt tl) (hz : sumF l ≤ 90000) (hl : l.length ≤ 1048576) (hzt : sumF tl ≤ 90000) (hlt : tl.length ≤ 1048576) (hM : M.size + T.size + R.size ≤ 90000) :
    Calls Tryz.prog 29 #[.agg (msgC M T s R mi vf B vt)] w fun e w' => e = .returned (.int .i64 (hdE (bs M) (bs T) s (bs R) mi l tl)) ∧ Below w.heap.size w w' := by
  obtain ⟨h1, h2, h3, h4⟩ := begun8 M T s R mi vf B vt w
  have HH := Lib.hid (head8_any M T s R mi vf B vt l tl w hTn hs ht hz hl hzt hlt hM)
  have HB := Lib.hid h3
  have c0 := h1.cell 0 _ rfl
  have c1 := h1.cell 1 _ rfl
  have c2 := h1.cell 2 _ rfl
  have c3 := h1.cell 3 _ rfl
  have c4 := h1.cell 4 _ rfl
  have c5 := h1.cell 5 _ rfl
  have c6 := h1.cell 6 _ rfl
  have c7 := h1.cell 7 _ rfl
  obtain ⟨a1, k1, rfl⟩ : ∃ a cap, vf = .slice a l.length cap := by obtain ⟨a, c, h, -⟩ := hs; exact ⟨a, c, h⟩
  obtain ⟨a2, k2, rfl⟩ : ∃ a cap, vt = .slice a tl.length cap := by obtain ⟨a, c, h, -⟩ := ht; exact ⟨a, c, h⟩
  unfold HdPost at HH
  generalize hdE (bs M) (bs T) s (bs R) mi l tl = G at *
  generalize hdW (bs M) (bs T) s (bs R) mi l tl = S at *
  clear h1 h2 h3 h4 hTn hs ht hz hl hzt hlt hM
  unfold msgC at *
  go_enter Tryz.func29, Tryz.ntmps29
  go_wp2_with fail
  refine HH.out.mono ?_
  rintro e w1 ⟨rfl, hi, hb⟩
  have HB1 := Lib.hid (HB.out.trans (hb.mono (Nat.le_succ _)))
  clear hi hb
  go_wp2_with fail
  go_ret
  exact ⟨rfl, HB1.out⟩

set_option maxHeartbeats 16000000 in
set_option maxRecDepth 100000 in
theorem request8_core (M T : ByteArray) (s : Int) (R : ByteArray) (mi : Int) (vf : Value) (B : ByteArray) (vt : Value) (G : Int) (H : Bs) (w : World) (hTn : Tens w) (HH : Hid (Calls Tryz.prog 69 #[.pointer (some ⟨w.heap.size + 1, 0, none⟩), .agg (msgC M T s R mi vf B vt)] ((w.alloc (.cells (msgC M T s R mi vf B vt) 24)).alloc (.cells #[.pointer none, .slice none 0 0] 86)) (HdPost (w.heap.size + 1) (w.heap.size + 1) G H ((w.alloc (.cells (msgC M T s R mi vf B vt) 24)).alloc (.cells #[.pointer none, .slice none 0 0] 86)))))
    (hH : H.length ≤ 200000) (hBz : B.size ≤ 100000) (hvf : ∃ a n c, vf = .slice a n c) (hvt : ∃ a n c, vt = .slice a n c) (hG : G = 0 ∨ G = 4 ∨ G = 6) :
    Calls Tryz.prog 23 #[.agg (msgC M T s R mi vf B vt)] w (TxPost (rqS (bs M) G H (bs B)) (rqE (bs M) G) w) := by
  obtain ⟨h1, h2, h3, h4⟩ := begun8 M T s R mi vf B vt w
  have HX := Lib.hid h1
  have HB := Lib.hid h3
  have HSz := Lib.hid h4
  have HQ := Lib.hid (fun W : World => isReq_any M T s R mi vf B vt W)
  have HC := Lib.hid (fun W : World => hasC_any M W)
  have HT := Lib.hid (fun (W : World) (hb : Below w.heap.size w W) => hTn.later hb)
  have HZ := Lib.hid (And.intro hH hBz)
  have c0 := h1.cell 0 _ rfl
  have c1 := h1.cell 1 _ rfl
  have c2 := h1.cell 2 _ rfl
  have c3 := h1.cell 3 _ rfl
  have c4 := h1.cell 4 _ rfl
  have c5 := h1.cell 5 _ rfl
  have c6 := h1.cell 6 _ rfl
  have c7 := h1.cell 7 _ rfl
  unfold HdPost at HH
  unfold TxPost
  have hltX : w.heap.size < w.heap.size + 1 := Nat.lt_succ_self _
  clear h1 h2 h3 h4
  unfold msgC at *
  obtain ⟨a1, n1, k1, rfl⟩ := hvf
  obtain ⟨a2, n2, k2, rfl⟩ := hvt
  clear hTn hH hBz
  have hcs : (∃ g : Int, G = g ∧ (g = 4 ∨ g = 6)) ∨ (G = 0 ∧ bs M = []) ∨ (G = 0 ∧ bs M ≠ [] ∧ bs B ≠ []) ∨ (G = 0 ∧ bs M ≠ [] ∧ bs B = [] ∧ hasC (bs M) = true) ∨ (G = 0 ∧ bs M ≠ [] ∧ bs B = [] ∧ hasC (bs M) = false) := by
    rcases hG with h | h | h
    · by_cases hm : bs M = []
      · exact .inr (.inl ⟨h, hm⟩)
      · by_cases hb : bs B = []
        · cases hh : hasC (bs M)
          · exact .inr (.inr (.inr (.inr ⟨h, hm, hb, rfl⟩)))
          · exact .inr (.inr (.inr (.inl ⟨h, hm, hb, rfl⟩)))
        · exact .inr (.inr (.inl ⟨h, hm, hb⟩))
    · exact .inl ⟨4, h, .inl rfl⟩
    · exact .inl ⟨6, h, .inr rfl⟩
  clear hG
  rcases hcs with ⟨g, rfl, hg⟩ | ⟨rfl, hm⟩ | ⟨rfl, hm, hb⟩ | ⟨rfl, hm, hb, hh⟩ | ⟨rfl, hm, hb, hh⟩
  · have hR : rqS (bs M) G H (bs B) = [] ∧ rqE (bs M) G = G := by
      rcases hg with rfl | rfl <;> exact ⟨rfl, rfl⟩
    have hne : (G != 0) = true := by rcases hg with rfl | rfl <;> rfl
    rw [hR.1, hR.2]
    clear hg hR
    go_enter Tryz.func23, Tryz.ntmps23
    go_wp2_with fail
    refine HH.out.mono ?_
    rintro e w1 ⟨rfl, hi, hb⟩
    have HX1 := Lib.hid (HX.out.under hb hltX)
    have HI1 := Lib.hid hi
    have HB1 := Lib.hid (HB.out.trans (hb.mono (Nat.le_succ _)))
    have HS1 := Lib.hid (Nat.le_trans HSz.out hb.size)
    clear hi hb c0 c1 c2 c3 c4 c5 c6 c7
    go_wp2_with fail
    go_ret2
    exact ⟨rfl, HB1.out⟩
  · have hR : rqS (bs M) 0 H (bs B) = [] ∧ rqE (bs M) 0 = 4 := by unfold rqS rqE; simp [hm]
    rw [hR.1, hR.2]
    rw [decide_eq_true hm] at HQ
    clear hm hR
    go_enter Tryz.func23, Tryz.ntmps23
    go_wp2_with fail
    refine HH.out.mono ?_
    rintro e w1 ⟨rfl, hi, hb⟩
    have HX1 := Lib.hid (HX.out.under hb hltX)
    have HI1 := Lib.hid hi
    have HB1 := Lib.hid (HB.out.trans (hb.mono (Nat.le_succ _)))
    have HS1 := Lib.hid (Nat.le_trans HSz.out hb.size)
    clear hi hb c0 c1 c2 c3 c4 c5 c6 c7
    have c0 := HX1.out.cell 0 _ rfl
    have c1 := HX1.out.cell 1 _ rfl
    have c2 := HX1.out.cell 2 _ rfl
    have c3 := HX1.out.cell 3 _ rfl
    have c4 := HX1.out.cell 4 _ rfl
    have c5 := HX1.out.cell 5 _ rfl
    have c6 := HX1.out.cell 6 _ rfl
    have c7 := HX1.out.cell 7 _ rfl
    go_wp2_with fail
    refine (HQ.out _).mono ?_
    rintro e w2 ⟨rfl, hb⟩
    have HX2 := Lib.hid (HX1.out.later hb)
    have HI2 := Lib.hid (isB_below HI1.out hb)
    have HB2 := Lib.hid (HB1.out.trans (hb.mono HB1.out.size))
    have HS2 := Lib.hid (Nat.le_trans HS1.out hb.size)
    clear hb c0 c1 c2 c3 c4 c5 c6 c7
    go_wp2_with fail
    go_ret2
    exact ⟨rfl, HB2.out⟩
  · have hR : rqS (bs M) 0 H (bs B) = H ++ lnL B.size ++ [13, 10] ++ bs B ∧ rqE (bs M) 0 = 0 := by unfold rqS rqE; rw [if_neg hm]; simp [hb, length_bs]
    rw [hR.1, hR.2]
    rw [decide_eq_false hm] at HQ
    have he := isE_no hb
    have HLn := Lib.hid (lnL_len B.size (by have := HZ.out; omega))
    clear hm hR hb
    go_enter Tryz.func23, Tryz.ntmps23
    go_wp2_with fail
    refine HH.out.mono ?_
    rintro e w1 ⟨rfl, hi, hb⟩
    have HX1 := Lib.hid (HX.out.under hb hltX)
    have HI1 := Lib.hid hi
    have HB1 := Lib.hid (HB.out.trans (hb.mono (Nat.le_succ _)))
    have HS1 := Lib.hid (Nat.le_trans HSz.out hb.size)
    clear hi hb c0 c1 c2 c3 c4 c5 c6 c7
    have c0 := HX1.out.cell 0 _ rfl
    have c1 := HX1.out.cell 1 _ rfl
    have c2 := HX1.out.cell 2 _ rfl
    have c3 := HX1.out.cell 3 _ rfl
    have c4 := HX1.out.cell 4 _ rfl
    have c5 := HX1.out.cell 5 _ rfl
    have c6 := HX1.out.cell 6 _ rfl
    have c7 := HX1.out.cell 7 _ rfl
    go_wp2_with fail
    refine (HQ.out _).mono ?_
    rintro e w2 ⟨rfl, hb⟩
    have HX2 := Lib.hid (HX1.out.later hb)
    have HI2 := Lib.hid (isB_below HI1.out hb)
    have HB2 := Lib.hid (HB1.out.trans (hb.mono HB1.out.size))
    have HS2 := Lib.hid (Nat.le_trans HS1.out hb.size)
    clear hb c0 c1 c2 c3 c4 c5 c6 c7
    have c6 := HX2.out.cell 6 _ rfl
    have c0 := HX2.out.cell 0 _ rfl
    have HK3 := Lib.hid (wLength_any _ _ _ B w2 (HT.out _ HB2.out) HI2.out (by have := HZ.out; omega) (by have := HZ.out; omega) HS2.out)
    go_wp2_with fail
    refine HK3.out.mono ?_
    rintro e w3 ⟨rfl, hi, hb⟩
    have HX3 := Lib.hid (HX2.out.under hb hltX)
    have HI3 := Lib.hid hi
    have HB3 := Lib.hid (HB2.out.trans (hb.mono (Nat.le_succ _)))
    have HS3 := Lib.hid (Nat.le_trans HS2.out hb.size)
    clear hi hb
    clear c6 c0
    have c6 := HX3.out.cell 6 _ rfl
    have HK4 := Lib.hid (wContent_any _ _ _ B w3 HI3.out (by rw [List.length_append]; have := HZ.out; have := HLn.out; omega) HS3.out)
    go_wp2_with fail
    refine HK4.out.mono ?_
    rintro e w4 ⟨rfl, hi, hb⟩
    have HX4 := Lib.hid (HX3.out.under hb hltX)
    have HI4 := Lib.hid hi
    have HB4 := Lib.hid (HB3.out.trans (hb.mono (Nat.le_succ _)))
    have HS4 := Lib.hid (Nat.le_trans HS3.out hb.size)
    clear hi hb
    clear c6
    have HF := Lib.hid (Tryz.Builder_String_any _ _ _ w4 HI4.out HS4.out)
    go_wp2_with fail
    refine HF.out.mono ?_
    rintro e wf ⟨rfl, hb⟩
    have HBf := Lib.hid (HB4.out.trans (hb.mono (Nat.le_succ _)))
    clear hb
    go_wp2_with fail
    go_ret2
    exact ⟨by simp only [List.append_assoc, List.cons_append, List.nil_append]; rfl, HBf.out⟩
  · have hR : rqS (bs M) 0 H (bs B) = H ++ lnL B.size ++ [13, 10] ++ bs B ∧ rqE (bs M) 0 = 0 := by unfold rqS rqE; rw [if_neg hm]; simp [hb, hh, ← length_bs]
    rw [hR.1, hR.2]
    rw [decide_eq_false hm] at HQ
    rw [hh] at HC
    have he := (bs_nil_iff B).1 hb
    subst he
    have HLn := Lib.hid (lnL_len (ByteArray.mk #[]).size (by decide))
    clear hm hR hb hh
    go_enter Tryz.func23, Tryz.ntmps23
    go_wp2_with fail
    refine HH.out.mono ?_
    rintro e w1 ⟨rfl, hi, hb⟩
    have HX1 := Lib.hid (HX.out.under hb hltX)
    have HI1 := Lib.hid hi
    have HB1 := Lib.hid (HB.out.trans (hb.mono (Nat.le_succ _)))
    have HS1 := Lib.hid (Nat.le_trans HSz.out hb.size)
    clear hi hb c0 c1 c2 c3 c4 c5 c6 c7
    have c0 := HX1.out.cell 0 _ rfl
    have c1 := HX1.out.cell 1 _ rfl
    have c2 := HX1.out.cell 2 _ rfl
    have c3 := HX1.out.cell 3 _ rfl
    have c4 := HX1.out.cell 4 _ rfl
    have c5 := HX1.out.cell 5 _ rfl
    have c6 := HX1.out.cell 6 _ rfl
    have c7 := HX1.out.cell 7 _ rfl
    go_wp2_with fail
    refine (HQ.out _).mono ?_
    rintro e w2 ⟨rfl, hb⟩
    have HX2 := Lib.hid (HX1.out.later hb)
    have HI2 := Lib.hid (isB_below HI1.out hb)
    have HB2 := Lib.hid (HB1.out.trans (hb.mono HB1.out.size))
    have HS2 := Lib.hid (Nat.le_trans HS1.out hb.size)
    clear hb c0 c1 c2 c3 c4 c5 c6 c7
    have c6 := HX2.out.cell 6 _ rfl
    have c0 := HX2.out.cell 0 _ rfl
    go_wp2_with fail
    refine (HC.out _).mono ?_
    rintro e w3 ⟨rfl, hb⟩
    have HX3 := Lib.hid (HX2.out.later hb)
    have HI3 := Lib.hid (isB_below HI2.out hb)
    have HB3 := Lib.hid (HB2.out.trans (hb.mono HB2.out.size))
    have HS3 := Lib.hid (Nat.le_trans HS2.out hb.size)
    clear hb c6 c0
    have c6 := HX3.out.cell 6 _ rfl
    have HK4 := Lib.hid (wLength_any _ _ _ ⟨#[]⟩ w3 (HT.out _ HB3.out) HI3.out (by have := HZ.out; omega) (by decide) HS3.out)
    go_wp2_with fail
    refine HK4.out.mono ?_
    rintro e w4 ⟨rfl, hi, hb⟩
    have HX4 := Lib.hid (HX3.out.under hb hltX)
    have HI4 := Lib.hid hi
    have HB4 := Lib.hid (HB3.out.trans (hb.mono (Nat.le_succ _)))
    have HS4 := Lib.hid (Nat.le_trans HS3.out hb.size)
    clear hi hb
    clear c6
    have c6 := HX4.out.cell 6 _ rfl
    have HK5 := Lib.hid (wContent_any _ _ _ ⟨#[]⟩ w4 HI4.out (by rw [List.length_append]; have := HZ.out; have := HLn.out; show _ + 0 ≤ _; omega) HS4.out)
    go_wp2_with fail
    refine HK5.out.mono ?_
    rintro e w5 ⟨rfl, hi, hb⟩
    have HX5 := Lib.hid (HX4.out.under hb hltX)
    have HI5 := Lib.hid hi
    have HB5 := Lib.hid (HB4.out.trans (hb.mono (Nat.le_succ _)))
    have HS5 := Lib.hid (Nat.le_trans HS4.out hb.size)
    clear hi hb
    clear c6
    have HF := Lib.hid (Tryz.Builder_String_any _ _ _ w5 HI5.out HS5.out)
    go_wp2_with fail
    refine HF.out.mono ?_
    rintro e wf ⟨rfl, hb⟩
    have HBf := Lib.hid (HB5.out.trans (hb.mono (Nat.le_succ _)))
    clear hb
    go_wp2_with fail
    go_ret2
    exact ⟨by simp only [List.append_assoc, List.cons_append, List.nil_append]; rfl, HBf.out⟩
  · have hR : rqS (bs M) 0 H (bs B) = H ++ [13, 10] ++ bs B ∧ rqE (bs M) 0 = 0 := by unfold rqS rqE; rw [if_neg hm]; simp [hb, hh]
    rw [hR.1, hR.2]
    rw [decide_eq_false hm] at HQ
    rw [hh] at HC
    have he := (bs_nil_iff B).1 hb
    subst he
    clear hm hR hb hh
    go_enter Tryz.func23, Tryz.ntmps23
    go_wp2_with fail
    refine HH.out.mono ?_
    rintro e w1 ⟨rfl, hi, hb⟩
    have HX1 := Lib.hid (HX.out.under hb hltX)
    have HI1 := Lib.hid hi
    have HB1 := Lib.hid (HB.out.trans (hb.mono (Nat.le_succ _)))
    have HS1 := Lib.hid (Nat.le_trans HSz.out hb.size)
    clear hi hb c0 c1 c2 c3 c4 c5 c6 c7
    have c0 := HX1.out.cell 0 _ rfl
    have c1 := HX1.out.cell 1 _ rfl
    have c2 := HX1.out.cell 2 _ rfl
    have c3 := HX1.out.cell 3 _ rfl
    have c4 := HX1.out.cell 4 _ rfl
    have c5 := HX1.out.cell 5 _ rfl
    have c6 := HX1.out.cell 6 _ rfl
    have c7 := HX1.out.cell 7 _ rfl
    go_wp2_with fail
    refine (HQ.out _).mono ?_
    rintro e w2 ⟨rfl, hb⟩
    have HX2 := Lib.hid (HX1.out.later hb)
    have HI2 := Lib.hid (isB_below HI1.out hb)
    have HB2 := Lib.hid (HB1.out.trans (hb.mono HB1.out.size))
    have HS2 := Lib.hid (Nat.le_trans HS1.out hb.size)
    clear hb c0 c1 c2 c3 c4 c5 c6 c7
    have c6 := HX2.out.cell 6 _ rfl
    have c0 := HX2.out.cell 0 _ rfl
    go_wp2_with fail
    refine (HC.out _).mono ?_
    rintro e w3 ⟨rfl, hb⟩
    have HX3 := Lib.hid (HX2.out.later hb)
    have HI3 := Lib.hid (isB_below HI2.out hb)
    have HB3 := Lib.hid (HB2.out.trans (hb.mono HB2.out.size))
    have HS3 := Lib.hid (Nat.le_trans HS2.out hb.size)
    clear hb c6 c0
    have c6 := HX3.out.cell 6 _ rfl
    have HK4 := Lib.hid (wContent_any _ _ _ ⟨#[]⟩ w3 HI3.out (by have := HZ.out; show _ + 0 ≤ _; omega) HS3.out)
    go_wp2_with fail
    refine HK4.out.mono ?_
    rintro e w4 ⟨rfl, hi, hb⟩
    have HX4 := Lib.hid (HX3.out.under hb hltX)
    have HI4 := Lib.hid hi
    have HB4 := Lib.hid (HB3.out.trans (hb.mono (Nat.le_succ _)))
    have HS4 := Lib.hid (Nat.le_trans HS3.out hb.size)
    clear hi hb
    clear c6
    have HF := Lib.hid (Tryz.Builder_String_any _ _ _ w4 HI4.out HS4.out)
    go_wp2_with fail
    refine HF.out.mono ?_
    rintro e wf ⟨rfl, hb⟩
    have HBf := Lib.hid (HB4.out.trans (hb.mono (Nat.le_succ _)))
    clear hb
    go_wp2_with fail
    go_ret2
    exact ⟨by simp only [List.append_assoc, List.cons_append, List.nil_append]; rfl, HBf.out⟩

theorem request8_any (M T : ByteArray) (s : Int) (R : ByteArray) (mi : Int) (vf : Value) (B : ByteArray) (vt : Value) (l tl : List (Bs × Bs)) (w : World) (hTn : Tens w)
    (hs : IsFlds w vf l) (ht : IsFlds w vt tl) (hz : sumF l ≤ 90000) (hl : l.length ≤ 1048576) (hzt : sumF tl ≤ 90000) (hlt : tl.length ≤ 1048576) (hM : M.size + T.size + R.size ≤ 90000) (hBz : B.size ≤ 100000) :
    Calls Tryz.prog 23 #[.agg (msgC M T s R mi vf B vt)] w (TxPost (rqS (bs M) (hdE (bs M) (bs T) s (bs R) mi l tl) (hdW (bs M) (bs T) s (bs R) mi l tl) (bs B)) (rqE (bs M) (hdE (bs M) (bs T) s (bs R) mi l tl)) w) :=
  request8_core M T s R mi vf B vt _ _ w hTn (Lib.hid (head8_any M T s R mi vf B vt l tl w hTn hs ht hz hl hzt hlt hM)) (hdW_len _ _ _ _ _ _ _ (by rw [length_bs, length_bs, length_bs]; exact hM) hz) hBz
    (by obtain ⟨a, c, h, -⟩ := hs; exact ⟨a, _, c, h⟩) (by obtain ⟨a, c, h, -⟩ := ht; exact ⟨a, _, c, h⟩) (hdE_three _ _ _ _ _ _ _)

set_option maxHeartbeats 16000000 in
set_option maxRecDepth 100000 in
theorem response8_core (M T : ByteArray) (s : Int) (R : ByteArray) (mi : Int) (vf : Value) (B : ByteArray) (vt : Value) (N : ByteArray) (G : Int) (H : Bs) (w : World) (hTn : Tens w) (HH : Hid (Calls Tryz.prog 69 #[.pointer (some ⟨w.heap.size + 1, 0, none⟩), .agg (msgC M T s R mi vf B vt)] ((w.alloc (.cells (msgC M T s R mi vf B vt) 24)).alloc (.cells #[.pointer none, .slice none 0 0] 86)) (HdPost (w.heap.size + 1) (w.heap.size + 1) G H ((w.alloc (.cells (msgC M T s R mi vf B vt) 24)).alloc (.cells #[.pointer none, .slice none 0 0] 86)))))
    (hH : H.length ≤ 200000) (hBz : B.size ≤ 100000) (hvf : ∃ a n c, vf = .slice a n c) (hvt : ∃ a n c, vt = .slice a n c) (hG : G = 0 ∨ G = 4 ∨ G = 6) :
    Calls Tryz.prog 25 #[.agg (msgC M T s R mi vf B vt), .string N] w (TxPost (anS (bs M) G H (bs B) s (bs N)) (anE (bs M) G) w) := by
  obtain ⟨h1, h2, h3, h4⟩ := begun8 M T s R mi vf B vt w
  have HX := Lib.hid h1
  have HB := Lib.hid h3
  have HSz := Lib.hid h4
  have HQ := Lib.hid (fun W : World => isReq_any M T s R mi vf B vt W)
  have HC := Lib.hid (fun W : World => bare8_any s W)
  have HT := Lib.hid (fun (W : World) (hb : Below w.heap.size w W) => hTn.later hb)
  have HZ := Lib.hid (And.intro hH hBz)
  have c0 := h1.cell 0 _ rfl
  have c1 := h1.cell 1 _ rfl
  have c2 := h1.cell 2 _ rfl
  have c3 := h1.cell 3 _ rfl
  have c4 := h1.cell 4 _ rfl
  have c5 := h1.cell 5 _ rfl
  have c6 := h1.cell 6 _ rfl
  have c7 := h1.cell 7 _ rfl
  unfold HdPost at HH
  unfold TxPost
  have hltX : w.heap.size < w.heap.size + 1 := Nat.lt_succ_self _
  clear h1 h2 h3 h4
  unfold msgC at *
  obtain ⟨a1, n1, k1, rfl⟩ := hvf
  obtain ⟨a2, n2, k2, rfl⟩ := hvt
  clear hTn hH hBz
  have hcs : (G = 4 ∨ G = 6) ∨ (G = 0 ∧ bs M ≠ []) ∨ (G = 0 ∧ bs M = [] ∧ bareB [] s = true) ∨ (G = 0 ∧ bs M = [] ∧ bareB [] s = false ∧ bs N = heB ∧ bs B ≠ []) ∨ (G = 0 ∧ bs M = [] ∧ bareB [] s = false ∧ bs N = heB ∧ bs B = []) ∨ (G = 0 ∧ bs M = [] ∧ bareB [] s = false ∧ bs N ≠ heB) := by
    rcases hG with h | h | h
    · by_cases hm : bs M = []
      · cases hh : bareB [] s
        · by_cases hn : bs N = heB
          · by_cases hb : bs B = []
            · exact .inr (.inr (.inr (.inr (.inl ⟨h, hm, rfl, hn, hb⟩))))
            · exact .inr (.inr (.inr (.inl ⟨h, hm, rfl, hn, hb⟩)))
          · exact .inr (.inr (.inr (.inr (.inr ⟨h, hm, rfl, hn⟩))))
        · exact .inr (.inr (.inl ⟨h, hm, rfl⟩))
      · exact .inr (.inl ⟨h, hm⟩)
    · exact .inl (.inl h)
    · exact .inl (.inr h)
  clear hG
  rcases hcs with hg | ⟨rfl, hm⟩ | ⟨rfl, hm, hh⟩ | ⟨rfl, hm, hh, hn, hb⟩ | ⟨rfl, hm, hh, hn, hb⟩ | ⟨rfl, hm, hh, hn⟩
  · have hR : anS (bs M) G H (bs B) s (bs N) = [] ∧ anE (bs M) G = G := by
      rcases hg with rfl | rfl <;> exact ⟨rfl, rfl⟩
    have hne : (G != 0) = true := by rcases hg with rfl | rfl <;> rfl
    rw [hR.1, hR.2]
    clear hg hR
    go_enter Tryz.func25, Tryz.ntmps25
    go_wp2_with fail
    refine HH.out.mono ?_
    rintro e w1 ⟨rfl, hi, hb⟩
    have HX1 := Lib.hid (HX.out.under hb hltX)
    have HI1 := Lib.hid hi
    have HB1 := Lib.hid (HB.out.trans (hb.mono (Nat.le_succ _)))
    have HS1 := Lib.hid (Nat.le_trans HSz.out hb.size)
    clear hi hb c0 c1 c2 c3 c4 c5 c6 c7
    go_wp2_with fail
    go_ret2
    exact ⟨rfl, HB1.out⟩
  · have hR : anS (bs M) 0 H (bs B) s (bs N) = [] ∧ anE (bs M) 0 = 4 := by unfold anS anE; simp [hm]
    rw [hR.1, hR.2]
    rw [decide_eq_false hm] at HQ
    clear hm hR
    go_enter Tryz.func25, Tryz.ntmps25
    go_wp2_with fail
    refine HH.out.mono ?_
    rintro e w1 ⟨rfl, hi, hb⟩
    have HX1 := Lib.hid (HX.out.under hb hltX)
    have HI1 := Lib.hid hi
    have HB1 := Lib.hid (HB.out.trans (hb.mono (Nat.le_succ _)))
    have HS1 := Lib.hid (Nat.le_trans HSz.out hb.size)
    clear hi hb c0 c1 c2 c3 c4 c5 c6 c7
    have c0 := HX1.out.cell 0 _ rfl
    have c1 := HX1.out.cell 1 _ rfl
    have c2 := HX1.out.cell 2 _ rfl
    have c3 := HX1.out.cell 3 _ rfl
    have c4 := HX1.out.cell 4 _ rfl
    have c5 := HX1.out.cell 5 _ rfl
    have c6 := HX1.out.cell 6 _ rfl
    have c7 := HX1.out.cell 7 _ rfl
    go_wp2_with fail
    refine (HQ.out _).mono ?_
    rintro e w2 ⟨rfl, hb⟩
    have HX2 := Lib.hid (HX1.out.later hb)
    have HI2 := Lib.hid (isB_below HI1.out hb)
    have HB2 := Lib.hid (HB1.out.trans (hb.mono HB1.out.size))
    have HS2 := Lib.hid (Nat.le_trans HS1.out hb.size)
    clear hb c0 c1 c2 c3 c4 c5 c6 c7
    go_wp2_with fail
    go_ret2
    exact ⟨rfl, HB2.out⟩
  · have hR : anS (bs M) 0 H (bs B) s (bs N) = H ++ [13, 10] ++ bs ⟨#[]⟩ ∧ anE (bs M) 0 = 0 := by
      unfold anS anE; rw [if_pos rfl, if_pos hm, if_pos rfl, if_pos hh, if_pos (.inl hh)]
      exact ⟨by simp [show bs ⟨#[]⟩ = [] from rfl], rfl⟩
    rw [hR.1, hR.2]
    rw [decide_eq_true hm] at HQ
    rw [hh] at HC
    clear hm hR hh
    go_enter Tryz.func25, Tryz.ntmps25
    go_wp2_with fail
    refine HH.out.mono ?_
    rintro e w1 ⟨rfl, hi, hb⟩
    have HX1 := Lib.hid (HX.out.under hb hltX)
    have HI1 := Lib.hid hi
    have HB1 := Lib.hid (HB.out.trans (hb.mono (Nat.le_succ _)))
    have HS1 := Lib.hid (Nat.le_trans HSz.out hb.size)
    clear hi hb c0 c1 c2 c3 c4 c5 c6 c7
    have c0 := HX1.out.cell 0 _ rfl
    have c1 := HX1.out.cell 1 _ rfl
    have c2 := HX1.out.cell 2 _ rfl
    have c3 := HX1.out.cell 3 _ rfl
    have c4 := HX1.out.cell 4 _ rfl
    have c5 := HX1.out.cell 5 _ rfl
    have c6 := HX1.out.cell 6 _ rfl
    have c7 := HX1.out.cell 7 _ rfl
    go_wp2_with fail
    refine (HQ.out _).mono ?_
    rintro e w2 ⟨rfl, hb⟩
    have HX2 := Lib.hid (HX1.out.later hb)
    have HI2 := Lib.hid (isB_below HI1.out hb)
    have HB2 := Lib.hid (HB1.out.trans (hb.mono HB1.out.size))
    have HS2 := Lib.hid (Nat.le_trans HS1.out hb.size)
    clear hb c0 c1 c2 c3 c4 c5 c6 c7
    have c2 := HX2.out.cell 2 _ rfl
    go_wp2_with fail
    refine (HC.out _).mono ?_
    rintro e w3 ⟨rfl, rfl⟩
    have HK4 := Lib.hid (wContent_any _ _ _ ⟨#[]⟩ w2 HI2.out (by have := HZ.out; show _ + 0 ≤ _; omega) HS2.out)
    go_wp2_with fail
    refine HK4.out.mono ?_
    rintro e w4 ⟨rfl, hi, hb⟩
    have HX4 := Lib.hid (HX2.out.under hb hltX)
    have HI4 := Lib.hid hi
    have HB4 := Lib.hid (HB2.out.trans (hb.mono (Nat.le_succ _)))
    have HS4 := Lib.hid (Nat.le_trans HS2.out hb.size)
    clear hi hb
    clear c2
    have HF := Lib.hid (Tryz.Builder_String_any _ _ _ w4 HI4.out HS4.out)
    go_wp2_with fail
    refine HF.out.mono ?_
    rintro e wf ⟨rfl, hb⟩
    have HBf := Lib.hid (HB4.out.trans (hb.mono (Nat.le_succ _)))
    clear hb
    go_wp2_with fail
    go_ret2
    exact ⟨by simp only [List.append_assoc, List.cons_append, List.nil_append]; rfl, HBf.out⟩
  · have hR : anS (bs M) 0 H (bs B) s (bs N) = H ++ lnL B.size ++ [13, 10] ++ bs ⟨#[]⟩ ∧ anE (bs M) 0 = 0 := by
      unfold anS anE; rw [if_pos rfl, if_pos hm, if_pos rfl, if_neg (by simp [hh]), if_neg (fun h => hb h.2), if_pos (.inr hn), length_bs]
      exact ⟨rfl, rfl⟩
    rw [hR.1, hR.2]
    rw [decide_eq_true hm] at HQ
    rw [hh] at HC
    have he := isE_no hb
    have HLn := Lib.hid (lnL_len B.size (by have := HZ.out; omega))
    have hne : (N.toList == [72, 69, 65, 68]) = true := by rw [toList_bs, hn]; rfl
    clear hm hR hh hb hn
    go_enter Tryz.func25, Tryz.ntmps25
    go_wp2_with fail
    refine HH.out.mono ?_
    rintro e w1 ⟨rfl, hi, hb⟩
    have HX1 := Lib.hid (HX.out.under hb hltX)
    have HI1 := Lib.hid hi
    have HB1 := Lib.hid (HB.out.trans (hb.mono (Nat.le_succ _)))
    have HS1 := Lib.hid (Nat.le_trans HSz.out hb.size)
    clear hi hb c0 c1 c2 c3 c4 c5 c6 c7
    have c0 := HX1.out.cell 0 _ rfl
    have c1 := HX1.out.cell 1 _ rfl
    have c2 := HX1.out.cell 2 _ rfl
    have c3 := HX1.out.cell 3 _ rfl
    have c4 := HX1.out.cell 4 _ rfl
    have c5 := HX1.out.cell 5 _ rfl
    have c6 := HX1.out.cell 6 _ rfl
    have c7 := HX1.out.cell 7 _ rfl
    go_wp2_with fail
    refine (HQ.out _).mono ?_
    rintro e w2 ⟨rfl, hb⟩
    have HX2 := Lib.hid (HX1.out.later hb)
    have HI2 := Lib.hid (isB_below HI1.out hb)
    have HB2 := Lib.hid (HB1.out.trans (hb.mono HB1.out.size))
    have HS2 := Lib.hid (Nat.le_trans HS1.out hb.size)
    clear hb c0 c1 c2 c3 c4 c5 c6 c7
    have c2 := HX2.out.cell 2 _ rfl
    have c6 := HX2.out.cell 6 _ rfl
    go_wp2_with fail
    refine (HC.out _).mono ?_
    rintro e w3 ⟨rfl, rfl⟩
    have HK4 := Lib.hid (wLength_any _ _ _ B w2 (HT.out _ HB2.out) HI2.out (by have := HZ.out; omega) (by have := HZ.out; omega) HS2.out)
    go_wp2_with fail
    refine HK4.out.mono ?_
    rintro e w4 ⟨rfl, hi, hb⟩
    have HX4 := Lib.hid (HX2.out.under hb hltX)
    have HI4 := Lib.hid hi
    have HB4 := Lib.hid (HB2.out.trans (hb.mono (Nat.le_succ _)))
    have HS4 := Lib.hid (Nat.le_trans HS2.out hb.size)
    clear hi hb
    clear c2 c6
    have HK5 := Lib.hid (wContent_any _ _ _ ⟨#[]⟩ w4 HI4.out (by rw [List.length_append]; have := HZ.out; have := HLn.out; show _ + 0 ≤ _; omega) HS4.out)
    go_wp2_with fail
    refine HK5.out.mono ?_
    rintro e w5 ⟨rfl, hi, hb⟩
    have HX5 := Lib.hid (HX4.out.under hb hltX)
    have HI5 := Lib.hid hi
    have HB5 := Lib.hid (HB4.out.trans (hb.mono (Nat.le_succ _)))
    have HS5 := Lib.hid (Nat.le_trans HS4.out hb.size)
    clear hi hb
    have HF := Lib.hid (Tryz.Builder_String_any _ _ _ w5 HI5.out HS5.out)
    go_wp2_with fail
    refine HF.out.mono ?_
    rintro e wf ⟨rfl, hb⟩
    have HBf := Lib.hid (HB5.out.trans (hb.mono (Nat.le_succ _)))
    clear hb
    go_wp2_with fail
    go_ret2
    exact ⟨by simp only [List.append_assoc, List.cons_append, List.nil_append]; rfl, HBf.out⟩
  · have hR : anS (bs M) 0 H (bs B) s (bs N) = H ++ [13, 10] ++ bs ⟨#[]⟩ ∧ anE (bs M) 0 = 0 := by
      unfold anS anE; rw [if_pos rfl, if_pos hm, if_pos rfl, if_neg (by simp [hh]), if_pos ⟨hn, hb⟩, if_pos (.inr hn)]
      exact ⟨by simp [show bs ⟨#[]⟩ = [] from rfl], rfl⟩
    rw [hR.1, hR.2]
    rw [decide_eq_true hm] at HQ
    rw [hh] at HC
    have he := (bs_nil_iff B).1 hb
    subst he
    have hne : (N.toList == [72, 69, 65, 68]) = true := by rw [toList_bs, hn]; rfl
    clear hm hR hh hb hn
    go_enter Tryz.func25, Tryz.ntmps25
    go_wp2_with fail
    refine HH.out.mono ?_
    rintro e w1 ⟨rfl, hi, hb⟩
    have HX1 := Lib.hid (HX.out.under hb hltX)
    have HI1 := Lib.hid hi
    have HB1 := Lib.hid (HB.out.trans (hb.mono (Nat.le_succ _)))
    have HS1 := Lib.hid (Nat.le_trans HSz.out hb.size)
    clear hi hb c0 c1 c2 c3 c4 c5 c6 c7
    have c0 := HX1.out.cell 0 _ rfl
    have c1 := HX1.out.cell 1 _ rfl
    have c2 := HX1.out.cell 2 _ rfl
    have c3 := HX1.out.cell 3 _ rfl
    have c4 := HX1.out.cell 4 _ rfl
    have c5 := HX1.out.cell 5 _ rfl
    have c6 := HX1.out.cell 6 _ rfl
    have c7 := HX1.out.cell 7 _ rfl
    go_wp2_with fail
    refine (HQ.out _).mono ?_
    rintro e w2 ⟨rfl, hb⟩
    have HX2 := Lib.hid (HX1.out.later hb)
    have HI2 := Lib.hid (isB_below HI1.out hb)
    have HB2 := Lib.hid (HB1.out.trans (hb.mono HB1.out.size))
    have HS2 := Lib.hid (Nat.le_trans HS1.out hb.size)
    clear hb c0 c1 c2 c3 c4 c5 c6 c7
    have c2 := HX2.out.cell 2 _ rfl
    have c6 := HX2.out.cell 6 _ rfl
    go_wp2_with fail
    refine (HC.out _).mono ?_
    rintro e w3 ⟨rfl, rfl⟩
    have HK4 := Lib.hid (wContent_any _ _ _ ⟨#[]⟩ w2 HI2.out (by have := HZ.out; show _ + 0 ≤ _; omega) HS2.out)
    go_wp2_with fail
    refine HK4.out.mono ?_
    rintro e w4 ⟨rfl, hi, hb⟩
    have HX4 := Lib.hid (HX2.out.under hb hltX)
    have HI4 := Lib.hid hi
    have HB4 := Lib.hid (HB2.out.trans (hb.mono (Nat.le_succ _)))
    have HS4 := Lib.hid (Nat.le_trans HS2.out hb.size)
    clear hi hb
    clear c2 c6
    have HF := Lib.hid (Tryz.Builder_String_any _ _ _ w4 HI4.out HS4.out)
    go_wp2_with fail
    refine HF.out.mono ?_
    rintro e wf ⟨rfl, hb⟩
    have HBf := Lib.hid (HB4.out.trans (hb.mono (Nat.le_succ _)))
    clear hb
    go_wp2_with fail
    go_ret2
    exact ⟨by simp only [List.append_assoc, List.cons_append, List.nil_append]; rfl, HBf.out⟩
  · have hR : anS (bs M) 0 H (bs B) s (bs N) = H ++ lnL B.size ++ [13, 10] ++ bs B ∧ anE (bs M) 0 = 0 := by
      unfold anS anE; rw [if_pos rfl, if_pos hm, if_pos rfl, if_neg (by simp [hh]), if_neg (fun h => hn h.1), if_neg (fun h => by rcases h with h | h; exact absurd h (by simp [hh]); exact hn h), length_bs]
      exact ⟨rfl, rfl⟩
    rw [hR.1, hR.2]
    rw [decide_eq_true hm] at HQ
    rw [hh] at HC
    have HLn := Lib.hid (lnL_len B.size (by have := HZ.out; omega))
    have hne : (N.toList == [72, 69, 65, 68]) = false := by rw [toList_bs]; exact beq_eq_false_iff_ne.2 hn
    clear hm hR hh hn
    go_enter Tryz.func25, Tryz.ntmps25
    go_wp2_with fail
    refine HH.out.mono ?_
    rintro e w1 ⟨rfl, hi, hb⟩
    have HX1 := Lib.hid (HX.out.under hb hltX)
    have HI1 := Lib.hid hi
    have HB1 := Lib.hid (HB.out.trans (hb.mono (Nat.le_succ _)))
    have HS1 := Lib.hid (Nat.le_trans HSz.out hb.size)
    clear hi hb c0 c1 c2 c3 c4 c5 c6 c7
    have c0 := HX1.out.cell 0 _ rfl
    have c1 := HX1.out.cell 1 _ rfl
    have c2 := HX1.out.cell 2 _ rfl
    have c3 := HX1.out.cell 3 _ rfl
    have c4 := HX1.out.cell 4 _ rfl
    have c5 := HX1.out.cell 5 _ rfl
    have c6 := HX1.out.cell 6 _ rfl
    have c7 := HX1.out.cell 7 _ rfl
    go_wp2_with fail
    refine (HQ.out _).mono ?_
    rintro e w2 ⟨rfl, hb⟩
    have HX2 := Lib.hid (HX1.out.later hb)
    have HI2 := Lib.hid (isB_below HI1.out hb)
    have HB2 := Lib.hid (HB1.out.trans (hb.mono HB1.out.size))
    have HS2 := Lib.hid (Nat.le_trans HS1.out hb.size)
    clear hb c0 c1 c2 c3 c4 c5 c6 c7
    have c2 := HX2.out.cell 2 _ rfl
    have c6 := HX2.out.cell 6 _ rfl
    go_wp2_with fail
    refine (HC.out _).mono ?_
    rintro e w3 ⟨rfl, rfl⟩
    have HK4 := Lib.hid (wLength_any _ _ _ B w2 (HT.out _ HB2.out) HI2.out (by have := HZ.out; omega) (by have := HZ.out; omega) HS2.out)
    go_wp2_with fail
    refine HK4.out.mono ?_
    rintro e w4 ⟨rfl, hi, hb⟩
    have HX4 := Lib.hid (HX2.out.under hb hltX)
    have HI4 := Lib.hid hi
    have HB4 := Lib.hid (HB2.out.trans (hb.mono (Nat.le_succ _)))
    have HS4 := Lib.hid (Nat.le_trans HS2.out hb.size)
    clear hi hb
    clear c2 c6
    have c6 := HX4.out.cell 6 _ rfl
    have HK5 := Lib.hid (wContent_any _ _ _ B w4 HI4.out (by rw [List.length_append]; have := HZ.out; have := HLn.out; omega) HS4.out)
    go_wp2_with fail
    refine HK5.out.mono ?_
    rintro e w5 ⟨rfl, hi, hb⟩
    have HX5 := Lib.hid (HX4.out.under hb hltX)
    have HI5 := Lib.hid hi
    have HB5 := Lib.hid (HB4.out.trans (hb.mono (Nat.le_succ _)))
    have HS5 := Lib.hid (Nat.le_trans HS4.out hb.size)
    clear hi hb
    clear c6
    have HF := Lib.hid (Tryz.Builder_String_any _ _ _ w5 HI5.out HS5.out)
    go_wp2_with fail
    refine HF.out.mono ?_
    rintro e wf ⟨rfl, hb⟩
    have HBf := Lib.hid (HB5.out.trans (hb.mono (Nat.le_succ _)))
    clear hb
    go_wp2_with fail
    go_ret2
    exact ⟨by simp only [List.append_assoc, List.cons_append, List.nil_append]; rfl, HBf.out⟩

theorem response8_any (M T : ByteArray) (s : Int) (R : ByteArray) (mi : Int) (vf : Value) (B : ByteArray) (vt : Value) (N : ByteArray) (l tl : List (Bs × Bs)) (w : World) (hTn : Tens w)
    (hs : IsFlds w vf l) (ht : IsFlds w vt tl) (hz : sumF l ≤ 90000) (hl : l.length ≤ 1048576) (hzt : sumF tl ≤ 90000) (hlt : tl.length ≤ 1048576) (hM : M.size + T.size + R.size ≤ 90000) (hBz : B.size ≤ 100000) :
    Calls Tryz.prog 25 #[.agg (msgC M T s R mi vf B vt), .string N] w (TxPost (anS (bs M) (hdE (bs M) (bs T) s (bs R) mi l tl) (hdW (bs M) (bs T) s (bs R) mi l tl) (bs B) s (bs N)) (anE (bs M) (hdE (bs M) (bs T) s (bs R) mi l tl)) w) :=
  response8_core M T s R mi vf B vt N _ _ w hTn (Lib.hid (head8_any M T s R mi vf B vt l tl w hTn hs ht hz hl hzt hlt hM)) (hdW_len _ _ _ _ _ _ _ (by rw [length_bs, length_bs, length_bs]; exact hM) hz) hBz
    (by obtain ⟨a, c, h, -⟩ := hs; exact ⟨a, _, c, h⟩) (by obtain ⟨a, c, h, -⟩ := ht; exact ⟨a, _, c, h⟩) (hdE_three _ _ _ _ _ _ _)

set_option maxHeartbeats 16000000 in
set_option maxRecDepth 100000 in
theorem chunked8_core (M T : ByteArray) (s : Int) (R : ByteArray) (mi : Int) (vf : Value) (B : ByteArray) (vt : Value) (size : Int) (G : Int) (H Z : Bs) (zE : Int) (w : World) (HH : Hid (Calls Tryz.prog 69 #[.pointer (some ⟨w.heap.size + 1, 0, none⟩), .agg (msgC M T s R mi vf B vt)] ((w.alloc (.cells (msgC M T s R mi vf B vt) 24)).alloc (.cells #[.pointer none, .slice none 0 0] 86)) (HdPost (w.heap.size + 1) (w.heap.size + 1) G H ((w.alloc (.cells (msgC M T s R mi vf B vt) 24)).alloc (.cells #[.pointer none, .slice none 0 0] 86)))))
    (HEn : Hid (∀ W, Below w.heap.size w W → Calls Tryz.prog 78 #[.string B, .int .i64 size, vt] W fun e w' => e = .returned (.tuple #[.string (mkS Z), .int .i64 zE]) ∧ Below W.heap.size W w'))
    (hH : H.length ≤ 200000) (hZ : Z.length ≤ 200000) (hvf : ∃ a n c, vf = .slice a n c) (hvt : ∃ a n c, vt = .slice a n c) (hG : G = 0 ∨ G = 4 ∨ G = 6) :
    Calls Tryz.prog 27 #[.agg (msgC M T s R mi vf B vt), .int .i64 size] w (TxPost (if ckE mi G s = 0 then H ++ teL ++ [13, 10] ++ Z else []) (ckE mi G s) w) := by
  obtain ⟨h1, h2, h3, h4⟩ := begun8 M T s R mi vf B vt w
  have HX := Lib.hid h1
  have HB := Lib.hid h3
  have HSz := Lib.hid h4
  have HC := Lib.hid (fun W : World => bare8_any s W)
  have HZ := Lib.hid (And.intro hH hZ)
  have c0 := h1.cell 0 _ rfl
  have c1 := h1.cell 1 _ rfl
  have c2 := h1.cell 2 _ rfl
  have c3 := h1.cell 3 _ rfl
  have c4 := h1.cell 4 _ rfl
  have c5 := h1.cell 5 _ rfl
  have c6 := h1.cell 6 _ rfl
  have c7 := h1.cell 7 _ rfl
  unfold HdPost at HH
  unfold TxPost
  have hltX : w.heap.size < w.heap.size + 1 := Nat.lt_succ_self _
  clear h1 h2 h3 h4
  unfold msgC at *
  obtain ⟨a1, n1, k1, rfl⟩ := hvf
  obtain ⟨a2, n2, k2, rfl⟩ := hvt
  clear hH hZ
  have hcs : (G = 4 ∨ G = 6) ∨ (G = 0 ∧ mi = 0) ∨ (G = 0 ∧ mi ≠ 0 ∧ bareB [] s = true) ∨ (G = 0 ∧ mi ≠ 0 ∧ bareB [] s = false) := by
    rcases hG with h | h | h
    · by_cases hm : mi = 0
      · exact .inr (.inl ⟨h, hm⟩)
      · cases hh : bareB [] s
        · exact .inr (.inr (.inr ⟨h, hm, rfl⟩))
        · exact .inr (.inr (.inl ⟨h, hm, rfl⟩))
    · exact .inl (.inl h)
    · exact .inl (.inr h)
  clear hG
  rcases hcs with hg | ⟨rfl, rfl⟩ | ⟨rfl, hm, hh⟩ | ⟨rfl, hm, hh⟩
  · have hR : ckE mi G s = G := by rcases hg with rfl | rfl <;> rfl
    have hne : (G != 0) = true := by rcases hg with rfl | rfl <;> rfl
    have hne2 : G ≠ 0 := by rcases hg with rfl | rfl <;> decide
    rw [hR, if_neg hne2]
    clear hg hR hne2
    go_enter Tryz.func27, Tryz.ntmps27
    go_wp2_with fail
    refine HH.out.mono ?_
    rintro e w1 ⟨rfl, hi, hb⟩
    have HX1 := Lib.hid (HX.out.under hb hltX)
    have HI1 := Lib.hid hi
    have HB1 := Lib.hid (HB.out.trans (hb.mono (Nat.le_succ _)))
    have HS1 := Lib.hid (Nat.le_trans HSz.out hb.size)
    clear hi hb c0 c1 c2 c3 c4 c5 c6 c7
    go_wp2_with fail
    go_ret2
    exact ⟨rfl, HB1.out⟩
  · have hR : ckE 0 0 s = 4 := by unfold ckE; rw [if_pos rfl, if_pos (.inl rfl)]
    rw [hR, if_neg (by decide)]
    clear hR
    go_enter Tryz.func27, Tryz.ntmps27
    go_wp2_with fail
    refine HH.out.mono ?_
    rintro e w1 ⟨rfl, hi, hb⟩
    have HX1 := Lib.hid (HX.out.under hb hltX)
    have HI1 := Lib.hid hi
    have HB1 := Lib.hid (HB.out.trans (hb.mono (Nat.le_succ _)))
    have HS1 := Lib.hid (Nat.le_trans HSz.out hb.size)
    clear hi hb c0 c1 c2 c3 c4 c5 c6 c7
    have c2 := HX1.out.cell 2 _ rfl
    have c4 := HX1.out.cell 4 _ rfl
    go_wp2_with fail
    go_ret2
    exact ⟨rfl, HB1.out⟩
  · have hR : ckE mi 0 s = 4 := by unfold ckE; rw [if_pos rfl, if_pos (.inr hh)]
    have hne : (mi == 0) = false := by simp [hm]
    rw [hR, if_neg (by decide)]
    rw [hh] at HC
    clear hR hm hh
    go_enter Tryz.func27, Tryz.ntmps27
    go_wp2_with fail
    refine HH.out.mono ?_
    rintro e w1 ⟨rfl, hi, hb⟩
    have HX1 := Lib.hid (HX.out.under hb hltX)
    have HI1 := Lib.hid hi
    have HB1 := Lib.hid (HB.out.trans (hb.mono (Nat.le_succ _)))
    have HS1 := Lib.hid (Nat.le_trans HSz.out hb.size)
    clear hi hb c0 c1 c2 c3 c4 c5 c6 c7
    have c2 := HX1.out.cell 2 _ rfl
    have c4 := HX1.out.cell 4 _ rfl
    go_wp2_with fail
    refine (HC.out _).mono ?_
    rintro e w2 ⟨rfl, rfl⟩
    go_wp2_with fail
    go_ret2
    exact ⟨rfl, HB1.out⟩
  · have hR : ckE mi 0 s = 0 := by unfold ckE; rw [if_pos rfl, if_neg (fun h => by rcases h with h | h; exact hm h; exact absurd h (by simp [hh]))]
    have hne : (mi == 0) = false := by simp [hm]
    rw [hR, if_pos rfl]
    rw [hh] at HC
    clear hR hm hh
    go_enter Tryz.func27, Tryz.ntmps27
    go_wp2_with fail
    refine HH.out.mono ?_
    rintro e w1 ⟨rfl, hi, hb⟩
    have HX1 := Lib.hid (HX.out.under hb hltX)
    have HI1 := Lib.hid hi
    have HB1 := Lib.hid (HB.out.trans (hb.mono (Nat.le_succ _)))
    have HS1 := Lib.hid (Nat.le_trans HSz.out hb.size)
    clear hi hb c0 c1 c2 c3 c4 c5 c6 c7
    have c2 := HX1.out.cell 2 _ rfl
    have c4 := HX1.out.cell 4 _ rfl
    go_wp2_with fail
    refine (HC.out _).mono ?_
    rintro e w2 ⟨rfl, rfl⟩
    clear c2 c4
    have c6 := HX1.out.cell 6 _ rfl
    have c7 := HX1.out.cell 7 _ rfl
    go_wp2_with fail
    refine (HEn.out _ HB1.out).mono ?_
    rintro e w3 ⟨rfl, hb⟩
    have HX3 := Lib.hid (HX1.out.later hb)
    have HI3 := Lib.hid (isB_below HI1.out hb)
    have HB3 := Lib.hid (HB1.out.trans (hb.mono HB1.out.size))
    have HS3 := Lib.hid (Nat.le_trans HS1.out hb.size)
    clear hb c6 c7
    have HK4 := Lib.hid (wField_any _ _ _ ⟨#[84, 114, 97, 110, 115, 102, 101, 114, 45, 69, 110, 99, 111, 100, 105, 110, 103]⟩ ⟨#[99, 104, 117, 110, 107, 101, 100]⟩ w3 HI3.out (by have := HZ.out; show _ + 17 + 7 ≤ _; omega) HS3.out)
    go_wp2_with fail
    refine HK4.out.mono ?_
    rintro e w4 ⟨rfl, hi, hb⟩
    have HX4 := Lib.hid (HX3.out.under hb hltX)
    have HI4 := Lib.hid hi
    have HB4 := Lib.hid (HB3.out.trans (hb.mono (Nat.le_succ _)))
    have HS4 := Lib.hid (Nat.le_trans HS3.out hb.size)
    clear hi hb
    have HI4b : Hid (IsB (w.heap.size + 1) (w.heap.size + 1) (H ++ teL) w4) := by
      have h := HI4.out
      have e1 : H ++ bs ⟨#[84, 114, 97, 110, 115, 102, 101, 114, 45, 69, 110, 99, 111, 100, 105, 110, 103]⟩ ++ [58, 32] ++ bs ⟨#[99, 104, 117, 110, 107, 101, 100]⟩ ++ [13, 10] = H ++ teL := by
        simp only [List.append_assoc]; rfl
      rw [e1] at h
      exact h
    clear HI4
    have HK5 := Lib.hid (wContent_any _ _ _ (mkS Z) w4 HI4b.out (by rw [List.length_append, size_mkS]; have := HZ.out; show _ + 28 + _ ≤ _; omega) HS4.out)
    go_wp2_with fail
    refine HK5.out.mono ?_
    rintro e w5 ⟨rfl, hi, hb⟩
    have HX5 := Lib.hid (HX4.out.under hb hltX)
    have HI5 := Lib.hid hi
    have HB5 := Lib.hid (HB4.out.trans (hb.mono (Nat.le_succ _)))
    have HS5 := Lib.hid (Nat.le_trans HS4.out hb.size)
    clear hi hb
    rw [bs_mkS] at HI5
    have HF := Lib.hid (Tryz.Builder_String_any _ _ _ w5 HI5.out HS5.out)
    go_wp2_with fail
    refine HF.out.mono ?_
    rintro e wf ⟨rfl, hb⟩
    have HBf := Lib.hid (HB5.out.trans (hb.mono (Nat.le_succ _)))
    clear hb
    go_wp2_with fail
    go_ret2
    exact ⟨by simp only [List.append_assoc, List.cons_append, List.nil_append]; rfl, HBf.out⟩

theorem enc_len (k : Nat) (body : Bs) (F : Bs) (h : body.length ≤ 400) : (encL k body F).length ≤ 3300 + F.length := by
  have := chunks_len k _ body (Nat.le_refl _) (by omega)
  unfold encL
  rw [List.length_append, List.length_append, List.length_append]
  simp only [List.length_cons, List.length_nil]
  omega
theorem chunked8_any (M T : ByteArray) (s : Int) (R : ByteArray) (mi : Int) (vf : Value) (B : ByteArray) (vt : Value) (size : Int) (l tl : List (Bs × Bs)) (w : World) (hTn : Tens w) (hBj : Bruijn w.heap.size w)
    (hs : IsFlds w vf l) (ht : IsFlds w vt tl) (hz : sumF l ≤ 90000) (hl : l.length ≤ 1048576) (hzt : sumF tl ≤ 90000) (hlt : tl.length ≤ 90000) (hM : M.size + T.size + R.size ≤ 90000) (hBz : B.size ≤ 400) (hsz : size ≤ 9223372036854775807) :
    Calls Tryz.prog 27 #[.agg (msgC M T s R mi vf B vt), .int .i64 size] w (TxPost (ckS mi (hdE (bs M) (bs T) s (bs R) mi l tl) (hdW (bs M) (bs T) s (bs R) mi l tl) (bs B) s size tl) (ckE mi (hdE (bs M) (bs T) s (bs R) mi l tl) s) w) := by
  have hle := enc_len (encK size (bs B)) (bs B) (linesF tl) (by rw [length_bs]; exact hBz)
  have hll := lines_len tl
  have h := chunked8_core M T s R mi vf B vt size _ _ (if okFs tl then encL (encK size (bs B)) (bs B) (linesF tl) else []) (byE tl) w (Lib.hid (head8_any M T s R mi vf B vt l tl w hTn hs ht hz hl hzt (by omega) hM)) (Lib.hid fun W hb => encode_any B size vt tl W (isFlds_below ht hb) (by omega) (by omega) hBz ((hBj.later hb).top) hsz) (hdW_len _ _ _ _ _ _ _ (by rw [length_bs, length_bs, length_bs]; exact hM) hz) (by split; omega; simp)
    (by obtain ⟨a, c, h, -⟩ := hs; exact ⟨a, _, c, h⟩) (by obtain ⟨a, c, h, -⟩ := ht; exact ⟨a, _, c, h⟩) (hdE_three _ _ _ _ _ _ _)
  have e : (if ckE mi (hdE (bs M) (bs T) s (bs R) mi l tl) s = 0 then hdW (bs M) (bs T) s (bs R) mi l tl ++ teL ++ [13, 10] ++ (if okFs tl then encL (encK size (bs B)) (bs B) (linesF tl) else []) else []) = ckS mi (hdE (bs M) (bs T) s (bs R) mi l tl) (hdW (bs M) (bs T) s (bs R) mi l tl) (bs B) s size tl := by
    unfold ckS
    split
    · rename_i hc
      have hk : okFs tl = true := by
        cases hk : okFs tl
        · exfalso
          have h4 : hdE (bs M) (bs T) s (bs R) mi l tl = 4 := by unfold hdE; rw [if_neg (by simp [hk])]
          rw [h4] at hc
          unfold ckE at hc
          simp at hc
        · rfl
      rw [hk]
      rfl
    · rfl
  rw [e] at h
  exact h
end Tk
end Go.Proofs.YtdlbmfgajgefdaaGreatDoor
namespace Go.Proofs.YtdlbmfgajgefdaaGreatDoor
open Go.RowKit
namespace Tk

theorem zeroFlds (W : World) : IsFlds W (.slice none 0 0) [] := ⟨none, 0, rfl, Nat.le_refl _, fun j f hj => by simp at hj⟩
theorem ex8_1 : anS [] (hdE [] [] 204 [120] 1 [] []) (hdW [] [] 204 [120] 1 [] []) [97] 204 [71, 69, 84] = (⟨#[72, 84, 84, 80, 47, 49, 46, 49, 32, 50, 48, 52, 32, 120, 13, 10, 13, 10]⟩ : ByteArray).data.toList ∧ anE [] (hdE [] [] 204 [120] 1 [] []) = 0 := by decide +kernel
theorem ex8_2 : anS [] (hdE [] [] 200 [120] 1 [] []) (hdW [] [] 200 [120] 1 [] []) [97] 200 [71, 69, 84] = (⟨#[72, 84, 84, 80, 47, 49, 46, 49, 32, 50, 48, 48, 32, 120, 13, 10, 67, 111, 110, 116, 101, 110, 116, 45, 76, 101, 110, 103, 116, 104, 58, 32, 49, 13, 10, 13, 10, 97]⟩ : ByteArray).data.toList ∧ anE [] (hdE [] [] 200 [120] 1 [] []) = 0 := by decide +kernel
set_option maxHeartbeats 4000000 in
set_option maxRecDepth 100000 in
theorem lives08_any (w : World) (hTn : Tens w) : Calls Tryz.prog 21 #[] w fun e w' => e = .returned (.bool true) ∧ Below w.heap.size w w' := by
  have H1 : Hid (∀ W, Below w.heap.size w W → Calls Tryz.prog 25 #[.agg #[.string ⟨#[]⟩, .string ⟨#[]⟩, .int .i64 204, .string ⟨#[120]⟩, .int .i64 1, .slice none 0 0, .string ⟨#[97]⟩, .slice none 0 0], .string ⟨#[71, 69, 84]⟩] W fun e w' => e = .returned (.tuple #[.string ⟨#[72, 84, 84, 80, 47, 49, 46, 49, 32, 50, 48, 52, 32, 120, 13, 10, 13, 10]⟩, .int .i64 0]) ∧ Below W.heap.size W w') := fun W hb => by
    have h := response8_any ⟨#[]⟩ ⟨#[]⟩ 204 ⟨#[120]⟩ 1 (.slice none 0 0) ⟨#[97]⟩ (.slice none 0 0) ⟨#[71, 69, 84]⟩ [] [] W (hTn.later hb) (zeroFlds W) (zeroFlds W) (by decide) (by decide) (by decide) (by decide) (by decide) (by decide)
    change Calls _ _ _ _ (TxPost (anS [] (hdE [] [] 204 [120] 1 [] []) (hdW [] [] 204 [120] 1 [] []) [97] 204 [71, 69, 84]) (anE [] (hdE [] [] 204 [120] 1 [] [])) W) at h
    rw [ex8_1.1, ex8_1.2] at h
    exact h
  have H2 : Hid (∀ W, Below w.heap.size w W → Calls Tryz.prog 25 #[.agg #[.string ⟨#[]⟩, .string ⟨#[]⟩, .int .i64 200, .string ⟨#[120]⟩, .int .i64 1, .slice none 0 0, .string ⟨#[97]⟩, .slice none 0 0], .string ⟨#[71, 69, 84]⟩] W fun e w' => e = .returned (.tuple #[.string ⟨#[72, 84, 84, 80, 47, 49, 46, 49, 32, 50, 48, 48, 32, 120, 13, 10, 67, 111, 110, 116, 101, 110, 116, 45, 76, 101, 110, 103, 116, 104, 58, 32, 49, 13, 10, 13, 10, 97]⟩, .int .i64 0]) ∧ Below W.heap.size W w') := fun W hb => by
    have h := response8_any ⟨#[]⟩ ⟨#[]⟩ 200 ⟨#[120]⟩ 1 (.slice none 0 0) ⟨#[97]⟩ (.slice none 0 0) ⟨#[71, 69, 84]⟩ [] [] W (hTn.later hb) (zeroFlds W) (zeroFlds W) (by decide) (by decide) (by decide) (by decide) (by decide) (by decide)
    change Calls _ _ _ _ (TxPost (anS [] (hdE [] [] 200 [120] 1 [] []) (hdW [] [] 200 [120] 1 [] []) [97] 200 [71, 69, 84]) (anE [] (hdE [] [] 200 [120] 1 [] [])) W) at h
    rw [ex8_2.1, ex8_2.2] at h
    exact h
  clear hTn
  go_enter Tryz.func21, Tryz.ntmps21
  go_wp2_with fail
  refine (H1.out _ (Below.refl _ _)).mono ?_
  rintro e w1 ⟨rfl, hb⟩
  have HB1 := Lib.hid hb
  clear hb
  go_wp2_with fail
  refine (H2.out _ HB1.out).mono ?_
  rintro e w2 ⟨rfl, hb⟩
  have HB2 := Lib.hid (HB1.out.trans (hb.mono HB1.out.size))
  clear hb
  go_wp2_with fail
  go_ret
  exact ⟨rfl, HB2.out⟩
end Tk
end Go.Proofs.YtdlbmfgajgefdaaGreatDoor
