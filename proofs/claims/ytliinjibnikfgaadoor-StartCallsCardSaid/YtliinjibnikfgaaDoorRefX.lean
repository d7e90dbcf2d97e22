/- The document's own lines, written: RequestLine, StatusLine. -/
import Derived.Test.YtliinjibnikfgaaDoorRefR
import Derived.Test.YtliinjibnikfgaaDoorStaG
namespace Go.Proofs.YtliinjibnikfgaaDoor
open Go.RowKit
namespace Tk

theorem cells_newX (w : World) (cs : Array Value) (T : TypeId) (j : Nat) (u : Value) (h : cs.toList[j]? = some u) : (w.alloc (.cells cs T)).cell? ((⟨w.heap.size, 0, none⟩ : Addr).add j) = some u := by
  have e : (w.alloc (.cells cs T)).cell? ⟨w.heap.size, j, none⟩ = some u := by
    rw [Lib.cell_of_heap (heap_alloc_last w _)]
    rw [Array.getElem?_toList] at h
    exact h
  by_cases hj : j = 0
  · subst hj; simpa [Addr.add] using e
  · simpa [Addr.add, hj] using e

theorem okMinor_no {n : Int} (h : n < 0 ∨ 1 < n) : okMinor n = false := by
  unfold okMinor; rw [decide_eq_false_iff_not]; omega

theorem rline_eq (m t : ByteArray) (d : UInt8) (v : Nat) (hd : d = UInt8.ofNat (48 + v)) : m ++ ⟨#[32]⟩ ++ t ++ ⟨#[32, 72, 84, 84, 80, 47, 49, 46]⟩ ++ ⟨[d].toArray⟩ = mkS (reqLine (bs m) (bs t) v) := by
  have h1 : m = mkS (bs m) := (mkS_bs m).symm
  have h2 : t = mkS (bs t) := (mkS_bs t).symm
  conv => lhs; rw [h1, h2, show (⟨#[32]⟩ : ByteArray) = mkS [32] from rfl, show (⟨#[32, 72, 84, 84, 80, 47, 49, 46]⟩ : ByteArray) = mkS [32, 72, 84, 84, 80, 47, 49, 46] from rfl, show (⟨[d].toArray⟩ : ByteArray) = mkS [d] from rfl]
  rw [mkS_append, mkS_append, mkS_append, mkS_append, hd]
  unfold reqLine vText
  simp

set_option maxHeartbeats 4000000 in
set_option maxRecDepth 100000 in
theorem rrline_any (m t : ByteArray) (n : Int) (w : World) (hm : m.size ≤ 1099511627) (ht : t.size ≤ 1099511627) :
    Calls Tryd.prog 21 #[.string m, .string t, .int .i64 n] w (RlPost (bs m) (bs t) n w) := by
  have hq := rToken_any m w (by omega)
  have hs := fun W => rseen_any t W (by omega)
  have hb : rlB (bs m) (bs t) n = ((tokL (bs m) && someL vis (bs t)) && okMinor n) := rfl
  cases h1 : tokL (bs m)
  · rw [h1] at hq hb
    obtain ⟨r1, r2⟩ := rl_no (show rlB (bs m) (bs t) n = false by rw [hb]; rfl)
    have R1 := Lib.hid r1
    have R2 := Lib.hid r2
    have HQ := Lib.hid hq
    clear r1 r2 hq hs hb h1
    go_enter Tryd.func21, Tryd.ntmps21
    go_wp2_with fail
    refine HQ.out.mono ?_
    rintro e w' ⟨rfl, rfl⟩
    go_wp2_with fail
    go_ret2
    exact ⟨by rw [R1.out, R2.out]; rfl, Below.refl _ _⟩
  · rw [h1] at hq hb
    have HQ := Lib.hid hq
    clear hq
    cases h2 : someL vis (bs t)
    · rw [h2] at hs hb
      obtain ⟨r1, r2⟩ := rl_no (show rlB (bs m) (bs t) n = false by rw [hb]; rfl)
      have R1 := Lib.hid r1
      have R2 := Lib.hid r2
      have HS := Lib.hid hs
      clear r1 r2 hs hb h1 h2
      go_enter Tryd.func21, Tryd.ntmps21
      go_wp2_with fail
      refine HQ.out.mono ?_
      rintro e w' ⟨rfl, rfl⟩
      go_wp2_with fail
      refine (HS.out _).mono ?_
      rintro e w' ⟨rfl, rfl⟩
      go_wp2_with fail
      go_ret2
      exact ⟨by rw [R1.out, R2.out]; rfl, Below.refl _ _⟩
    · rw [h2] at hs hb
      have HS := Lib.hid hs
      clear hs
      by_cases n0 : n < 0
      · obtain ⟨r1, r2⟩ := rl_no (show rlB (bs m) (bs t) n = false by rw [hb, okMinor_no (.inl n0)]; rfl)
        have R1 := Lib.hid r1
        have R2 := Lib.hid r2
        clear r1 r2 hb h1 h2
        go_enter Tryd.func21, Tryd.ntmps21
        go_wp2_with fail
        refine HQ.out.mono ?_
        rintro e w' ⟨rfl, rfl⟩
        go_wp2_with fail
        refine (HS.out _).mono ?_
        rintro e w' ⟨rfl, rfl⟩
        go_wp2_with fail
        go_ret2
        exact ⟨by rw [R1.out, R2.out]; rfl, Below.refl _ _⟩
      · by_cases n1 : 1 < n
        · obtain ⟨r1, r2⟩ := rl_no (show rlB (bs m) (bs t) n = false by rw [hb, okMinor_no (.inr n1)]; rfl)
          have R1 := Lib.hid r1
          have R2 := Lib.hid r2
          clear r1 r2 hb h1 h2
          go_enter Tryd.func21, Tryd.ntmps21
          go_wp2_with fail
          refine HQ.out.mono ?_
          rintro e w' ⟨rfl, rfl⟩
          go_wp2_with fail
          refine (HS.out _).mono ?_
          rintro e w' ⟨rfl, rfl⟩
          go_wp2_with fail
          go_ret2
          exact ⟨by rw [R1.out, R2.out]; rfl, Below.refl _ _⟩
        · have hv : n = 0 ∨ n = 1 := by omega
          have hok : okMinor n = true := by unfold okMinor; rw [decide_eq_true_eq]; exact hv
          obtain ⟨r1, r2⟩ := rl_yes (show rlB (bs m) (bs t) n = true by rw [hb, hok]; rfl)
          have R1 := Lib.hid r1
          have R2 := Lib.hid r2
          have hz1 : (m ++ ⟨#[32]⟩ : ByteArray).size = m.size + 1 := by rw [ByteArray.size_append]; rfl
          have hz2 : (m ++ ⟨#[32]⟩ ++ t : ByteArray).size = m.size + 1 + t.size := by rw [ByteArray.size_append, hz1]
          have hz3 : (m ++ ⟨#[32]⟩ ++ t ++ ⟨#[32, 72, 84, 84, 80, 47, 49, 46]⟩ : ByteArray).size = m.size + 1 + t.size + 8 := by rw [ByteArray.size_append, hz2]; rfl
          have g1 : (m ++ ⟨#[32]⟩ : ByteArray).size ≤ 9223372036854775807 := by omega
          have g2 : (m ++ ⟨#[32]⟩ ++ t : ByteArray).size ≤ 9223372036854775807 := by omega
          have g3 : (m ++ ⟨#[32]⟩ ++ t ++ ⟨#[32, 72, 84, 84, 80, 47, 49, 46]⟩ : ByteArray).size ≤ 3298534883328 := by omega
          clear hz1 hz2 hz3 r1 r2 hb h1 h2 n0 n1 hok
          rcases hv with rfl | rfl
          · have HE := Lib.hid (rline_eq m t 48 0 rfl)
            have hback := run_convert_bytes_back (P := Tryd.prog) (w.alloc (Obj.cells #[.int .u8 48] 5)) 81 9 5 ⟨w.heap.size, 0, none⟩ 1 [48] Tryd.underlying81 Tryd.underlying5 Tryd.underlying9 (fun j hj => cells_newX w _ _ j _ (by
              match j, hj with
              | 0, _ => rfl))
            rw [show [(48 : UInt8)].length = 1 from rfl] at hback
            go_enter Tryd.func21, Tryd.ntmps21
            go_wp2_with fail
            refine HQ.out.mono ?_
            rintro e w' ⟨rfl, rfl⟩
            go_wp2_with fail
            refine (HS.out _).mono ?_
            rintro e w' ⟨rfl, rfl⟩
            go_wp2_with fail
            go_ret2
            exact ⟨by rw [R1.out, R2.out, show (0 : Int).toNat = 0 from rfl, ← HE.out]; rfl, (Below.refl _ _).alloc (Nat.le_refl _) _⟩
          · have HE := Lib.hid (rline_eq m t 49 1 rfl)
            have hback := run_convert_bytes_back (P := Tryd.prog) (w.alloc (Obj.cells #[.int .u8 49] 5)) 81 9 5 ⟨w.heap.size, 0, none⟩ 1 [49] Tryd.underlying81 Tryd.underlying5 Tryd.underlying9 (fun j hj => cells_newX w _ _ j _ (by
              match j, hj with
              | 0, _ => rfl))
            rw [show [(49 : UInt8)].length = 1 from rfl] at hback
            go_enter Tryd.func21, Tryd.ntmps21
            go_wp2_with fail
            refine HQ.out.mono ?_
            rintro e w' ⟨rfl, rfl⟩
            go_wp2_with fail
            refine (HS.out _).mono ?_
            rintro e w' ⟨rfl, rfl⟩
            go_wp2_with fail
            go_ret2
            exact ⟨by rw [R1.out, R2.out, show (1 : Int).toNat = 1 from rfl, ← HE.out]; rfl, (Below.refl _ _).alloc (Nat.le_refl _) _⟩

theorem sline_eq (d : UInt8) (v k : Nat) (a b c : UInt8) (r : ByteArray) (hd : d = UInt8.ofNat (48 + v)) (h0 : 100 ≤ k) (h1 : k ≤ 599) (ha : a = UInt8.ofNat (48 + k / 100)) (hb : b = UInt8.ofNat (48 + k / 10 % 10)) (hc : c = UInt8.ofNat (48 + k % 10)) :
    (⟨#[72, 84, 84, 80, 47, 49, 46]⟩ : ByteArray) ++ ⟨[d].toArray⟩ ++ ⟨#[32]⟩ ++ ⟨[a, b, c].toArray⟩ ++ ⟨#[32]⟩ ++ r = mkS (staLine v k (bs r)) := by
  have h2 : r = mkS (bs r) := (mkS_bs r).symm
  conv => lhs; rw [h2, show (⟨#[32]⟩ : ByteArray) = mkS [32] from rfl, show (⟨#[72, 84, 84, 80, 47, 49, 46]⟩ : ByteArray) = mkS [72, 84, 84, 80, 47, 49, 46] from rfl, show (⟨[d].toArray⟩ : ByteArray) = mkS [d] from rfl, show (⟨[a, b, c].toArray⟩ : ByteArray) = mkS [a, b, c] from rfl]
  rw [mkS_append, mkS_append, mkS_append, mkS_append, mkS_append, hd, ha, hb, hc]
  unfold staLine vText
  rw [digL_three k h0 h1]
  simp

set_option maxHeartbeats 4000000 in
set_option maxRecDepth 100000 in
theorem rsline_any (m n : Int) (r : ByteArray) (w : World) (hr : r.size ≤ 1099511627) :
    Calls Tryd.prog 22 #[.int .i64 m, .int .i64 n, .string r] w (SlPost m n (bs r) w) := by
  have hq := rChars_any r w (by omega)
  have hb : slB m n (bs r) = (okMinor m && (decide (100 ≤ n) && decide (n ≤ 599) && allL 1 (bs r))) := rfl
  have HQ := Lib.hid hq
  clear hq
  by_cases m0 : m < 0
  · obtain ⟨r1, r2⟩ := sl_no (show slB m n (bs r) = false by rw [hb, okMinor_no (.inl m0)]; rfl)
    have R1 := Lib.hid r1
    have R2 := Lib.hid r2
    clear r1 r2 hb HQ
    go_enter Tryd.func22, Tryd.ntmps22
    go_wp2_with fail
    go_ret2
    exact ⟨by rw [R1.out, R2.out]; rfl, Below.refl _ _⟩
  by_cases m1 : 1 < m
  · obtain ⟨r1, r2⟩ := sl_no (show slB m n (bs r) = false by rw [hb, okMinor_no (.inr m1)]; rfl)
    have R1 := Lib.hid r1
    have R2 := Lib.hid r2
    clear r1 r2 hb HQ
    go_enter Tryd.func22, Tryd.ntmps22
    go_wp2_with fail
    go_ret2
    exact ⟨by rw [R1.out, R2.out]; rfl, Below.refl _ _⟩
  by_cases n0 : n < 100
  · obtain ⟨r1, r2⟩ := sl_no (show slB m n (bs r) = false by rw [hb, decide_eq_false (show ¬ 100 ≤ n by omega)]; simp)
    have R1 := Lib.hid r1
    have R2 := Lib.hid r2
    clear r1 r2 hb HQ
    go_enter Tryd.func22, Tryd.ntmps22
    go_wp2_with fail
    go_ret2
    exact ⟨by rw [R1.out, R2.out]; rfl, Below.refl _ _⟩
  by_cases n1 : 599 < n
  · obtain ⟨r1, r2⟩ := sl_no (show slB m n (bs r) = false by rw [hb, decide_eq_false (show ¬ n ≤ 599 by omega)]; simp)
    have R1 := Lib.hid r1
    have R2 := Lib.hid r2
    clear r1 r2 hb HQ
    go_enter Tryd.func22, Tryd.ntmps22
    go_wp2_with fail
    go_ret2
    exact ⟨by rw [R1.out, R2.out]; rfl, Below.refl _ _⟩
  cases hc : allL 1 (bs r)
  · rw [hc] at HQ
    obtain ⟨r1, r2⟩ := sl_no (show slB m n (bs r) = false by rw [hb, hc]; simp)
    have R1 := Lib.hid r1
    have R2 := Lib.hid r2
    clear r1 r2 hb hc
    go_enter Tryd.func22, Tryd.ntmps22
    go_wp2_with fail
    refine HQ.out.mono ?_
    rintro e w' ⟨rfl, rfl⟩
    go_wp2_with fail
    go_ret2
    exact ⟨by rw [R1.out, R2.out]; rfl, Below.refl _ _⟩
  · rw [hc] at HQ
    have hv : m = 0 ∨ m = 1 := by omega
    have hok : okMinor m = true := by unfold okMinor; rw [decide_eq_true_eq]; exact hv
    obtain ⟨r1, r2⟩ := sl_yes (show slB m n (bs r) = true by rw [hb, hok, hc, decide_eq_true (show 100 ≤ n by omega), decide_eq_true (show n ≤ 599 by omega)]; rfl)
    have R1 := Lib.hid r1
    have R2 := Lib.hid r2
    obtain ⟨k, rfl⟩ : ∃ k : Nat, n = k := ⟨n.toNat, by omega⟩
    clear r1 r2 hb hc hok
    have h100 : 100 ≤ k := by omega
    have h599 : k ≤ 599 := by omega
    obtain ⟨a, ha⟩ : ∃ a, a = UInt8.ofNat (48 + k / 100) := ⟨_, rfl⟩
    obtain ⟨b, hb⟩ : ∃ b, b = UInt8.ofNat (48 + k / 10 % 10) := ⟨_, rfl⟩
    obtain ⟨c, hc⟩ : ∃ c, c = UInt8.ofNat (48 + k % 10) := ⟨_, rfl⟩
    have ta : (a.toNat : Int) = 48 + (k : Int) / 100 := by rw [ha, UInt8.toNat_ofNat']; omega
    have tb : (b.toNat : Int) = 48 + (k : Int) / 10 % 10 := by rw [hb, UInt8.toNat_ofNat']; omega
    have tc : (c.toNat : Int) = 48 + (k : Int) % 10 := by rw [hc, UInt8.toNat_ofNat']; omega
    have wa : IntKind.u8.wrap (48 + (k : Int) / 100) = 48 + (k : Int) / 100 := by
      rw [← ta]; have := a.toNat_lt; simp [IntKind.wrap, IntKind.signed, IntKind.bits]; omega
    have wb : IntKind.u8.wrap (48 + (k : Int) / 10 % 10) = 48 + (k : Int) / 10 % 10 := by
      rw [← tb]; have := b.toNat_lt; simp [IntKind.wrap, IntKind.signed, IntKind.bits]; omega
    have wc : IntKind.u8.wrap (48 + (k : Int) % 10) = 48 + (k : Int) % 10 := by
      rw [← tc]; have := c.toNat_lt; simp [IntKind.wrap, IntKind.signed, IntKind.bits]; omega
    rcases hv with rfl | rfl
    · have HE := Lib.hid (sline_eq 48 0 k a b c r rfl h100 h599 ha hb hc)
      have hback1 := run_convert_bytes_back (P := Tryd.prog) (w.alloc (Obj.cells #[.int .u8 48] 5)) 81 9 5 ⟨w.heap.size, 0, none⟩ 1 [48] Tryd.underlying81 Tryd.underlying5 Tryd.underlying9 (fun j hj => cells_newX w _ _ j _ (by
        match j, hj with
        | 0, _ => rfl))
      rw [show [(48 : UInt8)].length = 1 from rfl] at hback1
      have hback2 := run_convert_bytes_back (P := Tryd.prog) ((w.alloc (Obj.cells #[.int .u8 48] 5)).alloc (Obj.cells #[.int .u8 (48 + (k : Int) / 100), .int .u8 (48 + (k : Int) / 10 % 10), .int .u8 (48 + (k : Int) % 10)] 5)) 81 9 5 ⟨(w.alloc (Obj.cells #[.int .u8 48] 5)).heap.size, 0, none⟩ 3 [a, b, c] Tryd.underlying81 Tryd.underlying5 Tryd.underlying9 (fun j hj => cells_newX _ _ _ j _ (by
        match j, hj with
        | 0, _ => show some (Value.int .u8 (48 + (k : Int) / 100)) = some (.int .u8 (a.toNat : Int)); rw [ta]
        | 1, _ => show some (Value.int .u8 (48 + (k : Int) / 10 % 10)) = some (.int .u8 (b.toNat : Int)); rw [tb]
        | 2, _ => show some (Value.int .u8 (48 + (k : Int) % 10)) = some (.int .u8 (c.toNat : Int)); rw [tc]))
      rw [show [a, b, c].length = 3 from rfl, show (w.alloc (Obj.cells #[.int .u8 48] 5)).heap.size = w.heap.size + 1 by simp] at hback2
      have hbl : Below w.heap.size w ((w.alloc (Obj.cells #[.int .u8 48] 5)).alloc (Obj.cells #[.int .u8 (48 + (k : Int) / 100), .int .u8 (48 + (k : Int) / 10 % 10), .int .u8 (48 + (k : Int) % 10)] 5)) := ((Below.refl _ _).alloc (Nat.le_refl _) _).alloc (by simp) _
      have HBL := Lib.hid hbl
      have z1 : (⟨[(48 : UInt8)].toArray⟩ : ByteArray).size = 1 := rfl
      have z2 : (⟨[a, b, c].toArray⟩ : ByteArray).size = 3 := rfl
      clear ha hb hc ta tb tc hbl
      go_enter Tryd.func22, Tryd.ntmps22
      go_wp2_with fail
      refine HQ.out.mono ?_
      rintro e w' ⟨rfl, rfl⟩
      go_wp2_with fail
      go_ret2
      exact ⟨by rw [R1.out, R2.out, show (0 : Int).toNat = 0 from rfl, Int.toNat_natCast, ← HE.out]; rfl, HBL.out⟩
    · have HE := Lib.hid (sline_eq 49 1 k a b c r rfl h100 h599 ha hb hc)
      have hback1 := run_convert_bytes_back (P := Tryd.prog) (w.alloc (Obj.cells #[.int .u8 49] 5)) 81 9 5 ⟨w.heap.size, 0, none⟩ 1 [49] Tryd.underlying81 Tryd.underlying5 Tryd.underlying9 (fun j hj => cells_newX w _ _ j _ (by
        match j, hj with
        | 0, _ => rfl))
      rw [show [(49 : UInt8)].length = 1 from rfl] at hback1
      have hback2 := run_convert_bytes_back (P := Tryd.prog) ((w.alloc (Obj.cells #[.int .u8 49] 5)).alloc (Obj.cells #[.int .u8 (48 + (k : Int) / 100), .int .u8 (48 + (k : Int) / 10 % 10), .int .u8 (48 + (k : Int) % 10)] 5)) 81 9 5 ⟨(w.alloc (Obj.cells #[.int .u8 49] 5)).heap.size, 0, none⟩ 3 [a, b, c] Tryd.underlying81 Tryd.underlying5 Tryd.underlying9 (fun j hj => cells_newX _ _ _ j _ (by
        match j, hj with
        | 0, _ => show some (Value.int .u8 (48 + (k : Int) / 100)) = some (.int .u8 (a.toNat : Int)); rw [ta]
        | 1, _ => show some (Value.int .u8 (48 + (k : Int) / 10 % 10)) = some (.int .u8 (b.toNat : Int)); rw [tb]
        | 2, _ => show some (Value.int .u8 (48 + (k : Int) % 10)) = some (.int .u8 (c.toNat : Int)); rw [tc]))
      rw [show [a, b, c].length = 3 from rfl, show (w.alloc (Obj.cells #[.int .u8 49] 5)).heap.size = w.heap.size + 1 by simp] at hback2
      have hbl : Below w.heap.size w ((w.alloc (Obj.cells #[.int .u8 49] 5)).alloc (Obj.cells #[.int .u8 (48 + (k : Int) / 100), .int .u8 (48 + (k : Int) / 10 % 10), .int .u8 (48 + (k : Int) % 10)] 5)) := ((Below.refl _ _).alloc (Nat.le_refl _) _).alloc (by simp) _
      have HBL := Lib.hid hbl
      have z1 : (⟨[(49 : UInt8)].toArray⟩ : ByteArray).size = 1 := rfl
      have z2 : (⟨[a, b, c].toArray⟩ : ByteArray).size = 3 := rfl
      clear ha hb hc ta tb tc hbl
      go_enter Tryd.func22, Tryd.ntmps22
      go_wp2_with fail
      refine HQ.out.mono ?_
      rintro e w' ⟨rfl, rfl⟩
      go_wp2_with fail
      go_ret2
      exact ⟨by rw [R1.out, R2.out, show (1 : Int).toNat = 1 from rfl, Int.toNat_natCast, ← HE.out]; rfl, HBL.out⟩
end Tk
end Go.Proofs.YtliinjibnikfgaaDoor
