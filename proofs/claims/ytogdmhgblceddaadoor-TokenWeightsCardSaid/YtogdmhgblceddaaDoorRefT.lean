/- The document's own text of a weight. -/
import Derived.Test.YtogdmhgblceddaaDoorRefW
import Derived.Test.YtogdmhgblceddaaDoorBack0
namespace Go.Proofs.YtogdmhgblceddaaDoor
open Go.RowKit
namespace Tk
open Ff Ieee Fl

theorem strip_zero (l : Bs) : strip (l ++ [48]) = strip l := by
  unfold strip; rw [List.reverse_append]; simp
theorem strip_other (l : Bs) (c : UInt8) (h : c ≠ 48) : strip (l ++ [c]) = l ++ [c] := by
  unfold strip; rw [List.reverse_append]; simp [h]

set_option maxHeartbeats 1000000 in
theorem refText_no (q : Nat) (w : World) (h : tst q = false) :
    Calls Tryd.prog 18 #[.float .f64 q] w (StrPost [] w) := by
  rcases tst_split' h with h0 | ⟨h0, h1⟩
  · clear h
    go_enter Tryd.func18, Tryd.ntmps18
    go_wp2_with fail
    go_ret
    exact ⟨rfl, Below.refl _ _⟩
  · clear h
    go_enter Tryd.func18, Tryd.ntmps18
    go_wp2_with fail
    go_ret
    exact ⟨rfl, Below.refl _ _⟩

def slLen : Value → Nat
  | .slice _ n _ => n
  | _ => 0

theorem leq_of (x y : Nat) : (some (compare x y) == some Ordering.lt || some (compare x y) == some Ordering.eq) = decide (x ≤ y) := by
  rcases Nat.lt_trichotomy x y with h | h | h
  · rw [Nat.compare_eq_lt.2 h, decide_eq_true (by omega)]; rfl
  · rw [Nat.compare_eq_eq.2 h, decide_eq_true (by omega)]; rfl
  · rw [Nat.compare_eq_gt.2 h, decide_eq_false (by omega)]; rfl

set_option maxHeartbeats 8000000 in
set_option maxRecDepth 100000 in
theorem refText_yes (q : Nat) (w : World) (hq : isW q) :
    Calls Tryd.prog 18 #[.float .f64 q] w (StrPost (ktext (gk (qn q) 1000)) w) := by
  obtain ⟨h0, h1⟩ := tst_split (tst_yes q hq)
  go_enter Tryd.func18, Tryd.ntmps18
  go_wp2_with fail
  go_loop [3] (fun v => ∃ k : Nat, k ≤ 1000 ∧ v = .int .i64 k ∧ Hid (F k ≤ qn q)) (fun v => 1000 - (RowKit.intOf v).toNat)
  case atStart => exact ⟨0, by omega, rfl, by (show _ ≤ _); rw [F_zero]; omega⟩
  case round =>
    obtain ⟨k, hk, rfl, hF⟩ := hrel
    by_cases hlt : k < 1000
    · have hquo := run_quo (k + 1) (by omega) w
      rw [show (((k + 1 : Nat)) : Int) = (k : Int) + 1 from rfl] at hquo
      have hord : FloatKind.f64.format.order (F (k + 1)) q = some (compare (F (k + 1)) (qn q)) := order_q (F (k + 1)) q (by have := F_le1 (k + 1) (by omega); omega) hq
      have hleq := leq_of (F (k + 1)) (qn q)
      by_cases hle : F (k + 1) ≤ qn q
      · rw [decide_eq_true hle] at hleq
        have HLE := Lib.hid hle
        rw [← hord] at hleq
        clear hord hle
        go_wp2_with fail
        exact ⟨⟨k + 1, by omega, by go_num, HLE⟩, by simp [RowKit.intOf]; omega⟩
      · rw [decide_eq_false hle] at hleq
        rw [← hord] at hleq
        have hgk := gk_at (qn q) k hk hF.out (.inr (by omega))
        have HG := Lib.hid hgk
        clear hord hle hgk hF
        by_cases hz : k = 0
        · have HT : Hid (ktext (gk (qn q) 1000) = [48]) := by
            show _ = _
            rw [HG.out, hz]; decide
          have hz2 : ((k : Int) == 0) = true := by rw [hz]; rfl
          have hz3 : ((k : Int) == 1000) = false := by rw [hz]; rfl
          clear hz
          go_wp2_with fail
          go_ret
          exact ⟨by rw [HT.out]; rfl, Below.refl _ _⟩
        · have d1 : (k : Int) / 100 ≤ 9 := by omega
          have d0 : 0 ≤ (k : Int) / 100 := by omega
          have d2 : (k : Int) / 10 % 10 ≤ 9 := by omega
          have d3 : 0 ≤ (k : Int) / 10 % 10 := by omega
          have d4 : (k : Int) % 10 ≤ 9 := by omega
          have d5 : 0 ≤ (k : Int) % 10 := by omega
          have hz1 : ¬ (k : Int) = 0 := by omega
          have hz2 : ((k : Int) == 0) = false := by simp; omega
          have hz3 : ((k : Int) == 1000) = false := by simp; omega
          obtain ⟨a, ea⟩ : ∃ a, a = UInt8.ofNat (48 + k / 100) := ⟨_, rfl⟩
          obtain ⟨b, eb⟩ : ∃ b, b = UInt8.ofNat (48 + k / 10 % 10) := ⟨_, rfl⟩
          obtain ⟨c, ec⟩ : ∃ c, c = UInt8.ofNat (48 + k % 10) := ⟨_, rfl⟩
          have va : (a.toNat : Int) = 48 + (k : Int) / 100 := by rw [ea, dig_toNat _ (by omega)]; omega
          have vb : (b.toNat : Int) = 48 + (k : Int) / 10 % 10 := by rw [eb, dig_toNat _ (by omega)]; omega
          have vc : (c.toNat : Int) = 48 + (k : Int) % 10 := by rw [ec, dig_toNat _ (by omega)]; omega
          have HKT : Hid (ktext (gk (qn q) 1000) = strip [48, 46, a, b, c]) := by
            show _ = _
            rw [HG.out, ea, eb, ec]
            unfold ktext
            rw [if_neg (by omega), if_neg hz]
          have hcl : ∀ j u, (#[Value.int .u8 48, .int .u8 46, .int .u8 (48 + (k : Int) / 100), .int .u8 (48 + (k : Int) / 10 % 10), .int .u8 (48 + (k : Int) % 10)] : Array Value).toList[j]? = some u → (w.alloc (Obj.cells #[Value.int .u8 48, .int .u8 46, .int .u8 (48 + (k : Int) / 100), .int .u8 (48 + (k : Int) / 10 % 10), .int .u8 (48 + (k : Int) % 10)] 5)).cell? ⟨w.heap.size, j, none⟩ = some u := fun j u h => by
            rw [Lib.cell_of_heap (heap_alloc_last w _)]
            rw [Array.getElem?_toList] at h
            exact h
          have c1 := hcl 1 _ rfl
          have c2 := (hcl 2 _ rfl).trans (show _ = some (Value.int .u8 (a.toNat : Int)) by rw [va])
          have c3 := (hcl 3 _ rfl).trans (show _ = some (Value.int .u8 (b.toNat : Int)) by rw [vb])
          have c4 := (hcl 4 _ rfl).trans (show _ = some (Value.int .u8 (c.toNat : Int)) by rw [vc])
          have c0 := hcl 0 _ rfl
          have HBW := Lib.hid (show Below w.heap.size w (w.alloc (Obj.cells #[Value.int .u8 48, .int .u8 46, .int .u8 (48 + (k : Int) / 100), .int .u8 (48 + (k : Int) / 10 % 10), .int .u8 (48 + (k : Int) % 10)] 5)) from (Below.refl _ _).alloc (Nat.le_refl _) _)
          have HC0 := Lib.hid c0
          have HC1 := Lib.hid c1
          have HC2 := Lib.hid c2
          have HC3 := Lib.hid c3
          have HC4 := Lib.hid c4
          clear hcl c0 c1 c2 c3 c4 ea eb ec va vb vc HG
          go_wp2_with fail
          clear hquo hleq
          generalize w.alloc (Obj.cells #[Value.int .u8 48, .int .u8 46, .int .u8 (48 + (k : Int) / 100), .int .u8 (48 + (k : Int) / 10 % 10), .int .u8 (48 + (k : Int) % 10)] 5) = W at *
          go_loop [4] (fun v => ∃ m : Nat, 2 ≤ m ∧ m ≤ 5 ∧ v = .slice (some ⟨w.heap.size, 0, none⟩) m 5 ∧ Hid (strip (([48, 46, a, b, c] : Bs).take m) = strip [48, 46, a, b, c])) (fun v => slLen v)
          case atStart => exact ⟨5, by omega, by omega, rfl, rfl⟩
          case round =>
            obtain ⟨m, hm2, hm5, rfl, hst⟩ := hrel
            have cells : ∀ (l : Bs), (∃ n, l = ([48, 46, a, b, c] : Bs).take n) → ∀ j (hj : j < l.length), W.cell? ((⟨w.heap.size, 0, none⟩ : Addr).add j) = some (.int .u8 (l[j].toNat : Int)) := by
              rintro l ⟨n, rfl⟩ j hj
              have hj5 : j < 5 := by have := List.length_take_le' n ([48, 46, a, b, c] : Bs); simp at hj; omega
              rw [Go.WideShapes.add_plain, List.getElem_take, Nat.zero_add]
              match j, hj5 with
              | 0, _ => exact HC0.out
              | 1, _ => exact HC1.out
              | 2, _ => exact HC2.out
              | 3, _ => exact HC3.out
              | 4, _ => exact HC4.out
            obtain ⟨p, rfl⟩ : ∃ p, m = p + 1 := ⟨m - 1, by omega⟩
            have hp5 : p < ([48, 46, a, b, c] : Bs).length := by simp; omega
            have hcp := cells _ ⟨5, rfl⟩ p (by simp; omega)
            rw [Go.WideShapes.add_plain, Nat.zero_add] at hcp
            have htk := take_snoc ([48, 46, a, b, c] : Bs) p hp5
            have hgd : ([48, 46, a, b, c] : Bs).getD p 0 = ([48, 46, a, b, c] : Bs)[p] := by rw [List.getD, List.getElem?_eq_getElem hp5]; rfl
            have h46 : p = 1 → ([48, 46, a, b, c] : Bs)[p] = 46 := fun e => by subst e; rfl
            rw [hgd] at htk
            have hln : (([48, 46, a, b, c] : Bs).take (p + 1)).length = p + 1 := by rw [List.length_take]; simp; omega
            have hback := run_convert_bytes_back (P := Tryd.prog) W 45 9 5 ⟨w.heap.size, 0, none⟩ 5 (([48, 46, a, b, c] : Bs).take (p + 1)) Tryd.underlying45 Tryd.underlying5 Tryd.underlying9 (cells _ ⟨p + 1, rfl⟩)
            rw [hln] at hback
            have HTK := Lib.hid htk
            have hcp' : W.cell? ⟨w.heap.size, p, none⟩ = some (.int .u8 (([48, 46, a, b, c] : Bs)[p].toNat : Int)) := hcp
            clear cells hcp htk hgd hln
            generalize ([48, 46, a, b, c] : Bs)[p] = x at *
            generalize ([48, 46, a, b, c] : Bs) = B at *
            have p4 : (p : Int) < 5 := by omega
            have p0 : (0 : Int) ≤ (p : Int) := by omega
            by_cases hx : ((x.toNat : Int) == 48) = true
            · have ex := u8_is x 48 (by omega) hx
              have hp2 : 2 ≤ p := by
                refine Nat.lt_of_not_le fun hle => ?_
                have := h46 (by omega)
                rw [ex] at this
                exact absurd this (by decide)
              have hst2 : Hid (strip (B.take p) = strip B) := by
                show _ = _
                rw [← hst.out, HTK.out, ex]
                exact (strip_zero _).symm
              clear hback h46 ex
              go_wp2_with fail
              exact ⟨⟨p, by omega, by omega, rfl, hst2⟩, by simp [slLen]⟩
            · have hx' : ((x.toNat : Int) == 48) = false := by simpa using hx
              have HE : Hid (strip B = B.take (p + 1)) := by
                show _ = _
                rw [← hst.out, HTK.out]
                exact strip_other _ _ (u8_not x 48 hx' (by omega))
              clear hx h46
              go_wp2_with fail
              go_ret
              exact ⟨by rw [HKT.out, HE.out]; rfl, HBW.out⟩
    · have hk1 : k = 1000 := by omega
      have hgk := gk_at (qn q) k hk hF.out (.inl hk1)
      have HT : Hid (ktext (gk (qn q) 1000) = [49]) := by
        show _ = _
        rw [hgk, hk1]; rfl
      subst hk1
      clear hgk hF
      go_wp2_with fail
      go_ret
      exact ⟨by rw [HT.out]; rfl, Below.refl _ _⟩
end Tk
end Go.Proofs.YtogdmhgblceddaaDoor
