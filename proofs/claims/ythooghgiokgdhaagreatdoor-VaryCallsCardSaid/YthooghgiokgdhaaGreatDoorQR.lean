/- LtT PkT LawVc, put together. -/
import Derived.Test.YthooghgiokgdhaaGreatDoorQC
import Derived.Test.YthooghgiokgdhaaGreatDoorQA
import Derived.Test.YthooghgiokgdhaaGreatDoorQH
import Derived.Test.YthooghgiokgdhaaGreatDoorQO
import Derived.Test.YthooghgiokgdhaaGreatDoorQP
import Derived.Test.YthooghgiokgdhaaGreatDoorQQ
import Derived.Deep.Cut
namespace Go.Proofs.YthooghgiokgdhaaGreatDoor
open Go.RowKit
namespace Tk

/-- may the texts be gone through: so many bytes together -/
def txGo (b : Nat) : Nat → List Bs → Bool
  | _, [] => true
  | n, x :: t => if b < n + x.length then false else txGo b (n + x.length) t
def lightX (M b : Nat) (l : List Bs) : Bool := decide (l.length ≤ M) && txGo b 0 l
theorem txGo_each (b : Nat) : ∀ (l : List Bs) (n : Nat), txGo b n l = true → ∀ x ∈ l, x.length ≤ b
  | [], _, _, x, hx => by simp at hx
  | y :: t, n, h, x, hx => by
    unfold txGo at h
    split at h
    · cases h
    · rcases List.mem_cons.1 hx with rfl | hx
      · omega
      · exact txGo_each b t _ h x hx
theorem lightX_parts (M b : Nat) (l : List Bs) (h : lightX M b l = true) : l.length ≤ M ∧ ∀ x ∈ l, x.length ≤ b := by
  unfold lightX at h
  rw [Bool.and_eq_true, decide_eq_true_eq] at h
  exact ⟨h.1, txGo_each b l 0 h.2⟩

set_option maxHeartbeats 2000000 in
set_option maxRecDepth 100000 in
theorem lightX_any (M b : Nat) (v : Value) (l : List Bs) (w : World) (hM : M ≤ 1000000) (hb : b ≤ 1000000) (hs : IsStrs w v l) (hz : ∀ x ∈ l, x.length ≤ 140737488351232) (hl : l.length ≤ 140737488351232) :
    Calls Tryz.prog 32 #[v, .int .i64 (M : Int), .int .i64 (b : Int)] w fun e w' => e = .returned (.bool (lightX M b l)) ∧ w = w' := by
  obtain ⟨a, c, rfl, hc⟩ := hs
  have HC := Lib.hid hc
  have HZ := Lib.hid hz
  clear hc hz
  by_cases h20 : M < l.length
  · have fin : lightX M b l = false := by unfold lightX; rw [decide_eq_false (by omega)]; rfl
    have HF := Lib.hid fin
    have h' : (M : Int) < (l.length : Int) := by omega
    clear fin
    go_enter Tryz.func32, Tryz.ntmps32
    go_wp2_with fail
    go_ret
    exact ⟨by rw [HF.out]; rfl, rfl⟩
  · have fin : lightX M b l = txGo b 0 l := by unfold lightX; rw [decide_eq_true (by omega)]; rfl
    have HF := Lib.hid fin
    have h' : ¬ (M : Int) < (l.length : Int) := by omega
    clear fin
    go_enter Tryz.func32, Tryz.ntmps32
    go_wp2_with fail
    go_loop [7, 8] (fun vn vi => ∃ (i n : Nat), i ≤ l.length ∧ n ≤ b ∧ vi = .int .i64 i ∧ vn = .int .i64 n ∧ Hid (lightX M b l = txGo b n (l.drop i))) (fun _ vi => l.length - (RowKit.intOf vi).toNat)
    case atStart => exact ⟨0, 0, by omega, by omega, rfl, rfl, HF.out⟩
    case round =>
      obtain ⟨i, n, hi, hn, rfl, rfl, hd⟩ := hrel
      by_cases hlt : i < l.length
      · obtain ⟨bb, o, rfl, hcell⟩ := HC.out i (l.getD i []) (by simp [List.getD, hlt])
        have hxl := HZ.out (l.getD i []) (by simp [List.getD, hlt])
        have hdr : l.drop i = l.getD i [] :: l.drop (i + 1) := by rw [List.drop_eq_getElem_cons hlt]; simp [List.getD, hlt]
        have HD := Lib.hid hdr
        have hsz : (mkS (l.getD i [])).size = (l.getD i []).length := size_mkS _
        clear hdr
        generalize l.getD i [] = x at *
        have HS := Lib.hid hsz
        have hxz : (mkS x).size ≤ 140737488351232 := by omega
        clear hsz
        by_cases hbb : b < n + (mkS x).size
        · have fin : lightX M b l = false := by
            rw [hd.out, HD.out, txGo, if_pos (by rw [← HS.out]; exact hbb)]
          have HF2 := Lib.hid fin
          have hb' : (b : Int) < (n : Int) + ((mkS x).size : Int) := by omega
          clear fin
          generalize mkS x = s at *
          go_wp2_with fail
          go_ret
          exact ⟨by rw [HF2.out]; rfl, rfl⟩
        · have nx : lightX M b l = txGo b (n + (mkS x).size) (l.drop (i + 1)) := by
            rw [hd.out, HD.out, txGo, if_neg (by rw [← HS.out]; exact hbb), HS.out]
          have HN := Lib.hid nx
          have hb' : ¬ (b : Int) < (n : Int) + ((mkS x).size : Int) := by omega
          clear nx
          generalize mkS x = s at *
          go_wp2_with fail
          exact ⟨⟨i + 1, n + s.size, by omega, by omega, by go_num, by go_num, HN⟩, by simp [RowKit.intOf]; omega⟩
      · have fin : lightX M b l = true := by rw [hd.out, List.drop_eq_nil_of_le (by omega)]; rfl
        have HF2 := Lib.hid fin
        clear fin
        go_wp2_with fail
        go_ret
        exact ⟨by rw [HF2.out]; rfl, rfl⟩
end Tk
end Go.Proofs.YthooghgiokgdhaaGreatDoor
namespace Go.Proofs.YthooghgiokgdhaaGreatDoor
open Go.RowKit
namespace Tk

def PickPost (m : Nat) (w : World) (r : Ending) (w' : World) : Prop := ∃ k : Nat, k < m ∧ r = .returned (.int .i64 k) ∧ w = w'

set_option maxHeartbeats 1000000 in
theorem pick_any (n : Int) (m : Nat) (w : World) (hm : 1 ≤ m) (hm2 : m ≤ 1099511627776) :
    Calls Tryz.prog 26 #[.int .i64 n, .int .i64 m] w (PickPost m w) := by
  have b0 : -(m : Int) < n.tmod m := by have := Int.lt_tmod_of_pos n (by omega : (0 : Int) < m); exact this
  have b1 : n.tmod m < m := Int.tmod_lt_of_pos n (by omega)
  by_cases hneg : n.tmod m < 0
  · go_enter Tryz.func26, Tryz.ntmps26
    go_wp2_with fail
    go_ret
    exact ⟨(n.tmod m + m).toNat, by omega, by rw [show (((n.tmod m + m).toNat : Nat) : Int) = n.tmod m + m by omega]; rfl, rfl⟩
  · go_enter Tryz.func26, Tryz.ntmps26
    go_wp2_with fail
    go_ret
    exact ⟨(n.tmod m).toNat, by omega, by rw [show (((n.tmod m).toNat : Nat) : Int) = n.tmod m by omega]; rfl, rfl⟩

end Tk
end Go.Proofs.YthooghgiokgdhaaGreatDoor
namespace Go.Proofs.YthooghgiokgdhaaGreatDoor
open Go.RowKit
namespace Tk

theorem below_drewsC (w : World) (n : Nat) : Below w.heap.size w (w.drewN n) := ⟨rfl, rfl, rfl, Nat.le_refl _, fun _ _ => rfl⟩
/-- what the law holds -/
structure VcH (w : World) (va vb v : Value) (la lb : List (Bs × Bs)) (L : List Bs) (host path : Bs) (qa qb qL : Bool) (nm : List Bs) (st m : Bool) (ky pr : Bs) : Prop where
  lv : ∀ W : World, Calls Tryz.prog 58 #[] W fun e w' => e = .returned (.bool true) ∧ Below W.heap.size W w'
  ta : ∀ W : World, Below w.heap.size w W → Calls Tryz.prog 59 #[va] W fun e w' => e = .returned (.bool qa) ∧ Below W.heap.size W w'
  tb : ∀ W : World, Below w.heap.size w W → Calls Tryz.prog 59 #[vb] W fun e w' => e = .returned (.bool qb) ∧ Below W.heap.size W w'
  tl : ∀ W : World, Below w.heap.size w W → Calls Tryz.prog 32 #[v, .int .i64 20, .int .i64 300] W fun e w' => e = .returned (.bool qL) ∧ Below W.heap.size W w'
  vn : qa = true → ∀ W : World, Below w.heap.size w W → Calls Tryz.prog 60 #[va] W fun e w' => ∃ v', e = .returned (.tuple #[v', .bool st]) ∧ IsStrs w' v' nm ∧ Below W.heap.size W w'
  rn : qa = true → ∀ W : World, Below w.heap.size w W → Calls Tryz.prog 61 #[va] W fun e w' => ∃ v', e = .returned (.tuple #[v', .bool st]) ∧ IsStrs w' v' nm ∧ Below W.heap.size W w'
  vv : qa = true → qL = true → ∀ x ∈ L, ∀ W : World, Below w.heap.size w W → Calls Tryz.prog 62 #[va, .string (mkS x)] W fun e w' => e = .returned (.string (mkS (vlV la x))) ∧ Below W.heap.size W w'
  rv : qa = true → qL = true → ∀ x ∈ L, ∀ W : World, Below w.heap.size w W → Calls Tryz.prog 63 #[va, .string (mkS x)] W fun e w' => e = .returned (.string (mkS (vlV la x))) ∧ Below W.heap.size W w'
  sm : qa = true → ∀ (W : World) (v1 v2 : Value), IsStrs W v1 nm → IsStrs W v2 nm → Calls Tryz.prog 64 #[v1, v2] W fun e w' => e = .returned (.bool true) ∧ Below W.heap.size W w'
  vm : qa = true → qb = true → qL = true → ∀ W : World, Below w.heap.size w W → Calls Tryz.prog 65 #[v, va, vb] W fun e w' => e = .returned (.bool m) ∧ Below W.heap.size W w'
  rm : qa = true → qb = true → qL = true → ∀ W : World, Below w.heap.size w W → Calls Tryz.prog 66 #[v, va, vb] W fun e w' => e = .returned (.bool m) ∧ Below W.heap.size W w'
  vk : qa = true → qL = true → ∀ W : World, Below w.heap.size w W → Calls Tryz.prog 67 #[v, va] W fun e w' => e = .returned (.string (mkS ky)) ∧ Below W.heap.size W w'
  rk : qa = true → qL = true → ∀ W : World, Below w.heap.size w W → Calls Tryz.prog 68 #[v, va] W fun e w' => e = .returned (.string (mkS ky)) ∧ Below W.heap.size W w'
  vp : host.length ≤ 100 → path.length ≤ 200 → ∀ W : World, Calls Tryz.prog 69 #[.string (mkS host), .string (mkS path)] W fun e w' => e = .returned (.string (mkS pr)) ∧ Below W.heap.size W w'
  rp : host.length ≤ 100 → path.length ≤ 200 → ∀ W : World, Calls Tryz.prog 70 #[.string (mkS host), .string (mkS path)] W fun e w' => e = .returned (.string (mkS pr)) ∧ Below W.heap.size W w'
  is : ∀ W : World, Below w.heap.size w W → IsStrs W v L
  ln : qL = true → L.length ≤ 20

set_option maxHeartbeats 8000000 in
set_option maxRecDepth 100000 in
theorem vc_a (va vb v : Value) (la lb : List (Bs × Bs)) (L : List Bs) (host path : Bs) (w : World) (qb : Bool) (qL : Bool) (nm : List Bs) (st m : Bool) (ky pr : Bs) (aa ab a : Option Addr) (ca cb c : Nat) (ea : va = .slice aa la.length ca) (eb : vb = .slice ab lb.length cb) (el : v = .slice a L.length c) (H : Hid (VcH w va vb v la lb L host path false qb qL nm st m ky pr)) :
    Calls Tryz.prog 8 #[va, vb, v, .string (mkS host), .string (mkS path)] w fun e w' => e = .returned (.bool true) ∧ Below w.heap.size w w' := by
  subst ea eb el
  have B0 := Lib.hid (Below.refl w.heap.size w)
  have z1 := size_mkS host
  have z2 := size_mkS path
  go_enter Tryz.func8, Tryz.ntmps8
  go_wp2_with fail
  refine (H.out.lv _).mono ?_
  rintro e w1 ⟨rfl, hb⟩
  have B1 := Lib.hid (B0.out.trans (hb.mono B0.out.size))
  clear hb
  go_wp2_with fail
  refine (H.out.ta _ B1.out).mono ?_
  rintro e w2 ⟨rfl, hb⟩
  have B2 := Lib.hid (B1.out.trans (hb.mono B1.out.size))
  clear hb
  go_wp2_with fail
  go_ret
  exact ⟨rfl, B2.out⟩

set_option maxHeartbeats 8000000 in
set_option maxRecDepth 100000 in
theorem vc_b (va vb v : Value) (la lb : List (Bs × Bs)) (L : List Bs) (host path : Bs) (w : World) (qL : Bool) (nm : List Bs) (st m : Bool) (ky pr : Bs) (aa ab a : Option Addr) (ca cb c : Nat) (ea : va = .slice aa la.length ca) (eb : vb = .slice ab lb.length cb) (el : v = .slice a L.length c) (H : Hid (VcH w va vb v la lb L host path true false qL nm st m ky pr)) :
    Calls Tryz.prog 8 #[va, vb, v, .string (mkS host), .string (mkS path)] w fun e w' => e = .returned (.bool true) ∧ Below w.heap.size w w' := by
  subst ea eb el
  have B0 := Lib.hid (Below.refl w.heap.size w)
  have z1 := size_mkS host
  have z2 := size_mkS path
  go_enter Tryz.func8, Tryz.ntmps8
  go_wp2_with fail
  refine (H.out.lv _).mono ?_
  rintro e w1 ⟨rfl, hb⟩
  have B1 := Lib.hid (B0.out.trans (hb.mono B0.out.size))
  clear hb
  go_wp2_with fail
  refine (H.out.ta _ B1.out).mono ?_
  rintro e w2 ⟨rfl, hb⟩
  have B2 := Lib.hid (B1.out.trans (hb.mono B1.out.size))
  clear hb
  go_wp2_with fail
  refine (H.out.tb _ B2.out).mono ?_
  rintro e w3 ⟨rfl, hb⟩
  have B3 := Lib.hid (B2.out.trans (hb.mono B2.out.size))
  clear hb
  go_wp2_with fail
  go_ret
  exact ⟨rfl, B3.out⟩

set_option maxHeartbeats 8000000 in
set_option maxRecDepth 100000 in
theorem vc_l (va vb v : Value) (la lb : List (Bs × Bs)) (L : List Bs) (host path : Bs) (w : World)  (nm : List Bs) (st m : Bool) (ky pr : Bs) (aa ab a : Option Addr) (ca cb c : Nat) (ea : va = .slice aa la.length ca) (eb : vb = .slice ab lb.length cb) (el : v = .slice a L.length c) (H : Hid (VcH w va vb v la lb L host path true true false nm st m ky pr)) :
    Calls Tryz.prog 8 #[va, vb, v, .string (mkS host), .string (mkS path)] w fun e w' => e = .returned (.bool true) ∧ Below w.heap.size w w' := by
  subst ea eb el
  have B0 := Lib.hid (Below.refl w.heap.size w)
  have z1 := size_mkS host
  have z2 := size_mkS path
  go_enter Tryz.func8, Tryz.ntmps8
  go_wp2_with fail
  refine (H.out.lv _).mono ?_
  rintro e w1 ⟨rfl, hb⟩
  have B1 := Lib.hid (B0.out.trans (hb.mono B0.out.size))
  clear hb
  go_wp2_with fail
  refine (H.out.ta _ B1.out).mono ?_
  rintro e w2 ⟨rfl, hb⟩
  have B2 := Lib.hid (B1.out.trans (hb.mono B1.out.size))
  clear hb
  go_wp2_with fail
  refine (H.out.tb _ B2.out).mono ?_
  rintro e w3 ⟨rfl, hb⟩
  have B3 := Lib.hid (B2.out.trans (hb.mono B2.out.size))
  clear hb
  go_wp2_with fail
  refine (H.out.tl _ B3.out).mono ?_
  rintro e w4 ⟨rfl, hb⟩
  have B4 := Lib.hid (B3.out.trans (hb.mono B3.out.size))
  clear hb
  go_wp2_with fail
  go_ret
  exact ⟨rfl, B4.out⟩

set_option maxHeartbeats 8000000 in
set_option maxRecDepth 100000 in
theorem vc_h (va vb v : Value) (la lb : List (Bs × Bs)) (L : List Bs) (host path : Bs) (w : World)  (nm : List Bs) (st m : Bool) (ky pr : Bs) (aa ab a : Option Addr) (ca cb c : Nat) (ea : va = .slice aa la.length ca) (eb : vb = .slice ab lb.length cb) (el : v = .slice a L.length c) (H : Hid (VcH w va vb v la lb L host path true true true nm st m ky pr)) (h1 : (100 : Int) < (host.length : Int)) :
    Calls Tryz.prog 8 #[va, vb, v, .string (mkS host), .string (mkS path)] w fun e w' => e = .returned (.bool true) ∧ Below w.heap.size w w' := by
  subst ea eb el
  have B0 := Lib.hid (Below.refl w.heap.size w)
  have z1 := size_mkS host
  have z2 := size_mkS path
  go_enter Tryz.func8, Tryz.ntmps8
  go_wp2_with fail
  refine (H.out.lv _).mono ?_
  rintro e w1 ⟨rfl, hb⟩
  have B1 := Lib.hid (B0.out.trans (hb.mono B0.out.size))
  clear hb
  go_wp2_with fail
  refine (H.out.ta _ B1.out).mono ?_
  rintro e w2 ⟨rfl, hb⟩
  have B2 := Lib.hid (B1.out.trans (hb.mono B1.out.size))
  clear hb
  go_wp2_with fail
  refine (H.out.tb _ B2.out).mono ?_
  rintro e w3 ⟨rfl, hb⟩
  have B3 := Lib.hid (B2.out.trans (hb.mono B2.out.size))
  clear hb
  go_wp2_with fail
  refine (H.out.tl _ B3.out).mono ?_
  rintro e w4 ⟨rfl, hb⟩
  have B4 := Lib.hid (B3.out.trans (hb.mono B3.out.size))
  clear hb
  go_wp2_with fail
  go_ret
  exact ⟨rfl, B4.out⟩

set_option maxHeartbeats 8000000 in
set_option maxRecDepth 100000 in
theorem vc_p (va vb v : Value) (la lb : List (Bs × Bs)) (L : List Bs) (host path : Bs) (w : World)  (nm : List Bs) (st m : Bool) (ky pr : Bs) (aa ab a : Option Addr) (ca cb c : Nat) (ea : va = .slice aa la.length ca) (eb : vb = .slice ab lb.length cb) (el : v = .slice a L.length c) (H : Hid (VcH w va vb v la lb L host path true true true nm st m ky pr)) (h1 : ¬ (100 : Int) < (host.length : Int)) (h2 : (200 : Int) < (path.length : Int)) :
    Calls Tryz.prog 8 #[va, vb, v, .string (mkS host), .string (mkS path)] w fun e w' => e = .returned (.bool true) ∧ Below w.heap.size w w' := by
  subst ea eb el
  have B0 := Lib.hid (Below.refl w.heap.size w)
  have z1 := size_mkS host
  have z2 := size_mkS path
  go_enter Tryz.func8, Tryz.ntmps8
  go_wp2_with fail
  refine (H.out.lv _).mono ?_
  rintro e w1 ⟨rfl, hb⟩
  have B1 := Lib.hid (B0.out.trans (hb.mono B0.out.size))
  clear hb
  go_wp2_with fail
  refine (H.out.ta _ B1.out).mono ?_
  rintro e w2 ⟨rfl, hb⟩
  have B2 := Lib.hid (B1.out.trans (hb.mono B1.out.size))
  clear hb
  go_wp2_with fail
  refine (H.out.tb _ B2.out).mono ?_
  rintro e w3 ⟨rfl, hb⟩
  have B3 := Lib.hid (B2.out.trans (hb.mono B2.out.size))
  clear hb
  go_wp2_with fail
  refine (H.out.tl _ B3.out).mono ?_
  rintro e w4 ⟨rfl, hb⟩
  have B4 := Lib.hid (B3.out.trans (hb.mono B3.out.size))
  clear hb
  go_wp2_with fail
  go_ret
  exact ⟨rfl, B4.out⟩

set_option maxHeartbeats 8000000 in
set_option maxRecDepth 100000 in
theorem vc_z (va vb v : Value) (la lb : List (Bs × Bs)) (L : List Bs) (host path : Bs) (w : World)  (nm : List Bs) (st m : Bool) (ky pr : Bs) (aa ab a : Option Addr) (ca cb c : Nat) (ea : va = .slice aa la.length ca) (eb : vb = .slice ab lb.length cb) (el : v = .slice a L.length c) (H : Hid (VcH w va vb v la lb L host path true true true nm st m ky pr)) (h1 : ¬ (100 : Int) < (host.length : Int)) (h2 : ¬ (200 : Int) < (path.length : Int)) :
    Calls Tryz.prog 8 #[va, vb, v, .string (mkS host), .string (mkS path)] w fun e w' => e = .returned (.bool true) ∧ Below w.heap.size w w' := by
  subst ea eb el
  have B0 := Lib.hid (Below.refl w.heap.size w)
  have z1 := size_mkS host
  have z2 := size_mkS path
  go_enter Tryz.func8, Tryz.ntmps8
  have HLn := Lib.hid (H.out.ln rfl)
  have HVp := Lib.hid (H.out.vp (by omega) (by omega))
  have HRp := Lib.hid (H.out.rp (by omega) (by omega))
  go_wp2_with fail
  refine (H.out.lv _).mono ?_
  rintro e w1 ⟨rfl, hb⟩
  have B1 := Lib.hid (B0.out.trans (hb.mono B0.out.size))
  clear hb
  go_wp2_with fail
  refine (H.out.ta _ B1.out).mono ?_
  rintro e w2 ⟨rfl, hb⟩
  have B2 := Lib.hid (B1.out.trans (hb.mono B1.out.size))
  clear hb
  go_wp2_with fail
  refine (H.out.tb _ B2.out).mono ?_
  rintro e w3 ⟨rfl, hb⟩
  have B3 := Lib.hid (B2.out.trans (hb.mono B2.out.size))
  clear hb
  go_wp2_with fail
  refine (H.out.tl _ B3.out).mono ?_
  rintro e w4 ⟨rfl, hb⟩
  have B4 := Lib.hid (B3.out.trans (hb.mono B3.out.size))
  clear hb
  go_wp2_with fail
  refine (H.out.vn rfl _ B4.out).mono ?_
  rintro e w5 ⟨n1, rfl, hs5, hb⟩
  have HS5 := Lib.hid hs5
  have B5 := Lib.hid (B4.out.trans (hb.mono B4.out.size))
  have HBB5 := Lib.hid hb
  clear hb hs5
  go_wp2_with fail
  refine (H.out.rn rfl _ B5.out).mono ?_
  rintro e w6 ⟨n2, rfl, hs6, hb⟩
  have HS6 := Lib.hid hs6
  have B6 := Lib.hid (B5.out.trans (hb.mono B5.out.size))
  have HBB6 := Lib.hid hb
  clear hb hs6
  have HN1 := Lib.hid (isStrsV_below HS5.out HBB6.out)
  clear HS5 HBB5 HBB6
  obtain ⟨q1, c1, rfl⟩ : ∃ a c, n1 = .slice a nm.length c := by obtain ⟨a, c, h, -⟩ := HN1.out; exact ⟨a, c, h⟩
  obtain ⟨q2, c2, rfl⟩ : ∃ a c, n2 = .slice a nm.length c := by obtain ⟨a, c, h, -⟩ := HS6.out; exact ⟨a, c, h⟩
  go_wp2_with fail
  go_loopw [10, 15] (fun vr vi wr => ∃ i : Nat, i ≤ L.length ∧ vr = .bool false ∧ vi = .int .i64 i ∧ Hid (Below w6.heap.size w6 wr)) (fun _ vi _ => L.length - (RowKit.intOf vi).toNat)
  case atStart => exact ⟨0, Nat.zero_le _, rfl, rfl, Below.refl _ _⟩
  case round =>
    obtain ⟨i, hi, rfl, rfl, HB⟩ := hrel
    rename World => W
    have BW := Lib.hid (B6.out.trans (HB.out.mono B6.out.size))
    have hll := HLn.out
    by_cases hlt : i < L.length
    · obtain ⟨a', c', e', hc⟩ := H.out.is W BW.out
      injection e' with e1 _ e2
      subst e1 e2
      obtain ⟨b, o, rfl, hc0⟩ := hc i (L.getD i []) (by simp [List.getD, hlt])
      have hme : L.getD i [] ∈ L := by simp [List.getD, hlt]
      have HV1 := Lib.hid (H.out.vv rfl rfl (L.getD i []) hme)
      have HV2 := Lib.hid (H.out.rv rfl rfl (L.getD i []) hme)
      clear hc hme
      generalize L.getD i [] = x at *
      generalize vlV la x = y at *
      have g0 : (0 : Int) ≤ (i : Int) := by omega
      have g1 : (i : Int) < (L.length : Int) := by omega
      have hbne : ((mkS y).toList != (mkS y).toList) = false := by simp
      have hbd : Below W.heap.size W W.drew := (Below.refl _ _).drew
      have hHeld0 : (fun Wz : World => Wz.cell? ⟨b, o + i, none⟩ = some (.string (mkS x)) ∧ Below w6.heap.size w6 Wz) W.drew := ⟨(hbd.cell (p := ⟨b, o + i, none⟩) (cell_lt (p := ⟨b, o + i, none⟩) hc0)).trans hc0, HB.out.trans (hbd.mono HB.out.size)⟩
      have HBt := Lib.hid (fun (Wz : World) (h : Below w6.heap.size w6 Wz) => B6.out.trans (h.mono B6.out.size))
      clear hc0 hbd
      go_upto_region 10 with fail
      refine wp_region_held_drew (S := (fun Wz : World => Wz.cell? ⟨b, o + i, none⟩ = some (.string (mkS x)) ∧ Below w6.heap.size w6 Wz)) (by kernel_rfl) hHeld0 (fun hHeld => ?_)
      refine wpAnyH_take (i := 0) (v := (.slice aa la.length ca)) rfl (by kernel_rfl) (by kernel_rfl) (by kernel_rfl) (fun _ _ _ h => h) (Or.inl ⟨by kernel_rfl, ?_⟩) (by assumption) ?_
      case refine_1 => (intro Wz hSw; go_simp; try with_reducible rfl)
      try simp only [Act.put, List.getElem_toArray, List.getElem_cons_zero, List.setIfInBounds_toArray, List.set_cons_zero, List.set_cons_succ]
      refine wpAnyH_take (i := 1) (v := (.slice (some ⟨b, o, none⟩) L.length c)) rfl (by kernel_rfl) (by kernel_rfl) (by kernel_rfl) (fun _ _ _ h => h) (Or.inl ⟨by kernel_rfl, ?_⟩) (by assumption) ?_
      case refine_1 => (intro Wz hSw; go_simp; try with_reducible rfl)
      try simp only [Act.put, List.getElem_toArray, List.getElem_cons_succ, List.getElem_cons_zero, List.setIfInBounds_toArray, List.set_cons_zero, List.set_cons_succ]
      refine wpAnyH_take (i := 2) (v := (.int .i64 i)) rfl (by kernel_rfl) (by kernel_rfl) (by kernel_rfl) (fun _ _ _ h => h) (Or.inl ⟨by kernel_rfl, ?_⟩) (by assumption) ?_
      case refine_1 => (intro Wz hSw; go_simp; try with_reducible rfl)
      try simp only [Act.put, List.getElem_toArray, List.getElem_cons_succ, List.getElem_cons_zero, List.setIfInBounds_toArray, List.set_cons_zero, List.set_cons_succ]
      refine wpAnyH_take (i := 3) (v := (.pointer (some ⟨b, o + i, none⟩))) rfl (by kernel_rfl) (by kernel_rfl) (by kernel_rfl) (fun _ _ _ h => h) (Or.inl ⟨by kernel_rfl, ?_⟩) (by assumption) ?_
      case refine_1 => (intro Wz hSw; go_simp; try with_reducible rfl)
      try simp only [Act.put, List.getElem_toArray, List.getElem_cons_succ, List.getElem_cons_zero, List.setIfInBounds_toArray, List.set_cons_zero, List.set_cons_succ]
      refine wpAnyH_take (i := 4) (v := (.string (mkS x))) rfl (by kernel_rfl) (by kernel_rfl) (by kernel_rfl) (fun _ _ _ h => h) (Or.inl ⟨by kernel_rfl, ?_⟩) (by assumption) ?_
      case refine_1 => (intro Wz hSw; have u := hSw.1; go_simp; try with_reducible rfl)
      try simp only [Act.put, List.getElem_toArray, List.getElem_cons_succ, List.getElem_cons_zero, List.setIfInBounds_toArray, List.set_cons_zero, List.set_cons_succ]
      refine wpAnyH_take (i := 6) (v := (.slice aa la.length ca)) rfl (by kernel_rfl) (by kernel_rfl) (by kernel_rfl) (fun _ _ _ h => h) (Or.inl ⟨by kernel_rfl, ?_⟩) (by assumption) ?_
      case refine_1 => (intro Wz hSw; go_simp; try with_reducible rfl)
      try simp only [Act.put, List.getElem_toArray, List.getElem_cons_succ, List.getElem_cons_zero, List.setIfInBounds_toArray, List.set_cons_zero, List.set_cons_succ]
      refine wpAnyH_take (i := 7) (v := (.slice (some ⟨b, o, none⟩) L.length c)) rfl (by kernel_rfl) (by kernel_rfl) (by kernel_rfl) (fun _ _ _ h => h) (Or.inl ⟨by kernel_rfl, ?_⟩) (by assumption) ?_
      case refine_1 => (intro Wz hSw; go_simp; try with_reducible rfl)
      try simp only [Act.put, List.getElem_toArray, List.getElem_cons_succ, List.getElem_cons_zero, List.setIfInBounds_toArray, List.set_cons_zero, List.set_cons_succ]
      refine wpAnyH_take (i := 8) (v := (.int .i64 i)) rfl (by kernel_rfl) (by kernel_rfl) (by kernel_rfl) (fun _ _ _ h => h) (Or.inl ⟨by kernel_rfl, ?_⟩) (by assumption) ?_
      case refine_1 => (intro Wz hSw; go_simp; try with_reducible rfl)
      try simp only [Act.put, List.getElem_toArray, List.getElem_cons_succ, List.getElem_cons_zero, List.setIfInBounds_toArray, List.set_cons_zero, List.set_cons_succ]
      refine wpAnyH_take (i := 9) (v := (.pointer (some ⟨b, o + i, none⟩))) rfl (by kernel_rfl) (by kernel_rfl) (by kernel_rfl) (fun _ _ _ h => h) (Or.inl ⟨by kernel_rfl, ?_⟩) (by assumption) ?_
      case refine_1 => (intro Wz hSw; go_simp; try with_reducible rfl)
      try simp only [Act.put, List.getElem_toArray, List.getElem_cons_succ, List.getElem_cons_zero, List.setIfInBounds_toArray, List.set_cons_zero, List.set_cons_succ]
      refine wpAnyH_take (i := 10) (v := (.string (mkS x))) rfl (by kernel_rfl) (by kernel_rfl) (by kernel_rfl) (fun _ _ _ h => h) (Or.inl ⟨by kernel_rfl, ?_⟩) (by assumption) ?_
      case refine_1 => (intro Wz hSw; have u := hSw.1; go_simp; try with_reducible rfl)
      try simp only [Act.put, List.getElem_toArray, List.getElem_cons_succ, List.getElem_cons_zero, List.setIfInBounds_toArray, List.set_cons_zero, List.set_cons_succ]
      refine wpAnyH_ready (rs := [5]) (by kernel_rfl) (by simp) ?_
      refine AllReadyH.cons rfl (fun K hK => ?_) AllReadyH.nil
      go_simp
      refine (HV1.out _ (HBt.out _ hHeld0.2)).mono ?_
      rintro e y1 ⟨rfl, hbb⟩
      have hHeld1 : (fun Wz : World => Wz.cell? ⟨b, o + i, none⟩ = some (.string (mkS x)) ∧ Below w6.heap.size w6 Wz) y1 := ⟨(hbb.cell (p := ⟨b, o + i, none⟩) (cell_lt (p := ⟨b, o + i, none⟩) hHeld0.1)).trans hHeld0.1, hHeld0.2.trans (hbb.mono hHeld0.2.size)⟩
      clear hbb
      go_simp
      refine hK.out _ _ hHeld1 (fun hHeld2 => ?_)
      clear hK K hHeld2
      try simp only [Act.put, List.getElem_toArray, List.getElem_cons_succ, List.getElem_cons_zero, List.setIfInBounds_toArray, List.set_cons_zero, List.set_cons_succ]
      refine wpAnyH_ready (rs := [11]) (by kernel_rfl) (by simp) ?_
      refine AllReadyH.cons rfl (fun K hK => ?_) AllReadyH.nil
      go_simp
      refine (HV2.out _ (HBt.out _ hHeld1.2)).mono ?_
      rintro e y2 ⟨rfl, hbb⟩
      have hHeld2x : (fun Wz : World => Wz.cell? ⟨b, o + i, none⟩ = some (.string (mkS x)) ∧ Below w6.heap.size w6 Wz) y2 := ⟨(hbb.cell (p := ⟨b, o + i, none⟩) (cell_lt (p := ⟨b, o + i, none⟩) hHeld1.1)).trans hHeld1.1, hHeld1.2.trans (hbb.mono hHeld1.2.size)⟩
      clear hbb
      go_simp
      refine hK.out _ _ hHeld2x (fun hHeld2 => ?_)
      clear hK K hHeld2
      try simp only [Act.put, List.getElem_toArray, List.getElem_cons_succ, List.getElem_cons_zero, List.setIfInBounds_toArray, List.set_cons_zero, List.set_cons_succ]
      refine wpAnyH_take (i := 12) (v := .bool false) rfl (by kernel_rfl) (by kernel_rfl) (by kernel_rfl) (fun _ _ _ h => h) (Or.inl ⟨by kernel_rfl, ?_⟩) (by assumption) ?_
      case refine_1 => (intro Wz hSw; go_simp; try with_reducible rfl)
      try simp only [Act.put, List.getElem_toArray, List.getElem_cons_succ, List.getElem_cons_zero, List.setIfInBounds_toArray, List.set_cons_zero, List.set_cons_succ]
      refine wpAnyH_done (by kernel_rfl) ?_ _
      go_wp2_with fail
      exact ⟨⟨i + 1, hlt, rfl, by go_num, hHeld2x.2⟩, by simp [RowKit.intOf]; omega⟩
    · have hst : (st == st) = true := by cases st <;> rfl
      have hmm : (m == m) = true := by cases m <;> rfl
      have B7 := BW
      have K1 := Lib.hid (isStrsV_below HN1.out HB.out)
      have K2 := Lib.hid (isStrsV_below HS6.out HB.out)
      have HSm := Lib.hid (H.out.sm rfl W _ _ K1.out K2.out)
      clear hll
      go_wp2_with fail
      refine (HSm.out).mono ?_
      rintro e w8 ⟨rfl, hb⟩
      have B8 := Lib.hid (B7.out.trans (hb.mono B7.out.size))
      clear hb
      go_wp2_with fail
      refine (H.out.vm rfl rfl rfl _ B8.out).mono ?_
      rintro e w9 ⟨rfl, hb⟩
      have B9 := Lib.hid (B8.out.trans (hb.mono B8.out.size))
      clear hb
      go_wp2_with fail
      refine (H.out.rm rfl rfl rfl _ B9.out).mono ?_
      rintro e w10 ⟨rfl, hb⟩
      have B10 := Lib.hid (B9.out.trans (hb.mono B9.out.size))
      clear hb
      go_wp2_with fail
      refine (H.out.vk rfl rfl _ B10.out).mono ?_
      rintro e w11 ⟨rfl, hb⟩
      have B11 := Lib.hid (B10.out.trans (hb.mono B10.out.size))
      clear hb
      go_wp2_with fail
      refine (H.out.rk rfl rfl _ B11.out).mono ?_
      rintro e w12 ⟨rfl, hb⟩
      have B12 := Lib.hid (B11.out.trans (hb.mono B11.out.size))
      clear hb
      go_wp2_with fail
      refine (HVp.out _).mono ?_
      rintro e w13 ⟨rfl, hb⟩
      have B13 := Lib.hid (B12.out.trans (hb.mono B12.out.size))
      clear hb
      go_wp2_with fail
      refine (HRp.out _).mono ?_
      rintro e w14 ⟨rfl, hb⟩
      have B14 := Lib.hid (B13.out.trans (hb.mono B13.out.size))
      clear hb
      go_wp2_with fail
      go_ret
      exact ⟨by simp, B14.out⟩

theorem vcalls_any (va vb v : Value) (la lb : List (Bs × Bs)) (L : List Bs) (host path : ByteArray) (w : World) (ha : IsFlds w va la) (hb : IsFlds w vb lb) (hs : IsStrs w v L)
    (hza : ∀ f ∈ la, f.1.length ≤ 140737488351232 ∧ f.2.length ≤ 140737488351232) (hna : la.length ≤ 140737488351232) (hzb : ∀ f ∈ lb, f.1.length ≤ 140737488351232 ∧ f.2.length ≤ 140737488351232) (hnb : lb.length ≤ 140737488351232)
    (hzl : ∀ x ∈ L, x.length ≤ 140737488351232) (hnl : L.length ≤ 140737488351232) (hU : Utf w) (hT : TenV w) :
    Calls Tryz.prog 8 #[va, vb, v, .string host, .string path] w fun e w' => e = .returned (.bool true) ∧ Below w.heap.size w w' := by
  rw [← mkS_bs host, ← mkS_bs path]
  generalize bs host = host
  generalize bs path = path
  have hU2 := fun (W : World) (h : Below w.heap.size w W) => hU.later h
  have hT2 := fun (W : World) (h : Below w.heap.size w W) => hT.later h
  have H : VcH w va vb v la lb L host path (lightU la) (lightU lb) (lightX 20 300 L) (nmsV (listF la nVary)) (decide ([42] ∈ listF la nVary)) (mchV la lb L) (keyV (vlV la) L) (lowL host ++ 32 :: path) := {
    lv := fun W => lives12_any W
    ta := fun W h => (vlight_any va la W (isFlds_below ha h) hza hna).mono fun e w' ⟨h1, n, h2⟩ => ⟨h1, h2 ▸ below_drewsC W n⟩
    tb := fun W h => (vlight_any vb lb W (isFlds_below hb h) hzb hnb).mono fun e w' ⟨h1, n, h2⟩ => ⟨h1, h2 ▸ below_drewsC W n⟩
    tl := fun W h => (lightX_any 20 300 v L W (by decide) (by decide) (isStrsV_below hs h) hzl hnl).mono fun e w' ⟨h1, h2⟩ => ⟨h1, h2 ▸ Below.refl _ _⟩
    vn := fun qa W h => by
      obtain ⟨a1, a2⟩ := lightU_parts la qa
      refine (names_any va la W (isFlds_below ha h) (by omega) (by omega)).mono ?_
      rintro e w' ⟨v', h1, h2, h3⟩
      exact ⟨v', h1, isStrs_own h2, h3⟩
    rn := fun qa W h => by
      obtain ⟨a1, a2⟩ := lightU_parts la qa
      refine (rnames_any va la W (isFlds_below ha h) (by omega) (by omega)).mono ?_
      rintro e w' ⟨v', h1, h2, h3⟩
      exact ⟨v', h1, isStrs_own h2, h3⟩
    vv := fun qa qL x hx W h => by
      obtain ⟨a1, a2⟩ := lightU_parts la qa
      obtain ⟨l1, l2⟩ := lightX_parts 20 300 L qL
      exact vval_any va la x W (hU2 W h) (isFlds_below ha h) (by omega) (by have := l2 x hx; omega) (by omega)
    rv := fun qa qL x hx W h => by
      obtain ⟨a1, a2⟩ := lightU_parts la qa
      obtain ⟨l1, l2⟩ := lightX_parts 20 300 L qL
      exact rvval_any va la x W (isFlds_below ha h) (by omega) (by have := l2 x hx; omega) (by omega)
    sm := fun qa W v1 v2 h1 h2 => by
      obtain ⟨a1, a2⟩ := lightU_parts la qa
      have hl : (nmsV (listF la nVary)).length ≤ 1099511627776 := by
        have k1 := listF_len nVary la
        have k2 := set_lenV ((listF la nVary).map lowL)
        rw [List.length_map] at k2
        unfold nmsV
        split
        · simp
        · omega
      refine (same_any v1 v2 _ _ W h1 h2 hl hl).mono ?_
      rintro e w' ⟨h3, n, h4⟩
      exact ⟨by rw [h3, decide_eq_true rfl], h4 ▸ below_drewsC W n⟩
    vm := fun qa qb qL W h => by
      obtain ⟨a1, a2⟩ := lightU_parts la qa
      obtain ⟨b1, b2⟩ := lightU_parts lb qb
      obtain ⟨l1, l2⟩ := lightX_parts 20 300 L qL
      exact match_any v va vb la lb L W (isStrsV_below hs h) (hU2 W h) (isFlds_below ha h) (isFlds_below hb h) (by omega) (by omega) (by omega) (by omega) (fun x hx => by have := l2 x hx; omega) (by omega)
    rm := fun qa qb qL W h => by
      obtain ⟨a1, a2⟩ := lightU_parts la qa
      obtain ⟨b1, b2⟩ := lightU_parts lb qb
      obtain ⟨l1, l2⟩ := lightX_parts 20 300 L qL
      exact rmatch_any v va vb la lb L W (isStrsV_below hs h) (isFlds_below ha h) (isFlds_below hb h) (by omega) (by omega) (by omega) (by omega) (fun x hx => by have := l2 x hx; omega) (by omega)
    vk := fun qa qL W h => by
      obtain ⟨a1, a2⟩ := lightU_parts la qa
      obtain ⟨l1, l2⟩ := lightX_parts 20 300 L qL
      exact key_any v va la L W (isStrsV_below hs h) (hU2 W h) (hT2 W h) (isFlds_below ha h) (by omega) (by omega) (fun x hx => by have := l2 x hx; omega) (by omega)
    rk := fun qa qL W h => by
      obtain ⟨a1, a2⟩ := lightU_parts la qa
      obtain ⟨l1, l2⟩ := lightX_parts 20 300 L qL
      exact rkey_any v va la L W (isStrsV_below hs h) (isFlds_below ha h) (by omega) (by omega) (fun x hx => by have := l2 x hx; omega) (by omega)
    vp := fun h1 h2 W => primary_any host path W (by omega) (by omega)
    rp := fun h1 h2 W => rprimary_any host path W (by omega) (by omega)
    is := fun W h => isStrsV_below hs h
    ln := fun qL => by
      obtain ⟨l1, l2⟩ := lightX_parts 20 300 L qL
      omega }
  obtain ⟨aa, ca, ea⟩ : ∃ a c, va = .slice a la.length c := by obtain ⟨a, c, h, -⟩ := ha; exact ⟨a, c, h⟩
  obtain ⟨ab, cb, eb⟩ : ∃ a c, vb = .slice a lb.length c := by obtain ⟨a, c, h, -⟩ := hb; exact ⟨a, c, h⟩
  obtain ⟨a, c, el⟩ : ∃ a c, v = .slice a L.length c := by obtain ⟨a, c, h, -⟩ := hs; exact ⟨a, c, h⟩
  generalize lightU la = qa at *
  generalize lightU lb = qb at *
  generalize lightX 20 300 L = qL at *
  cases qa
  · exact vc_a va vb v la lb L host path w _ _ _ _ _ _ _ aa ab a ca cb c ea eb el H
  · cases qb
    · exact vc_b va vb v la lb L host path w _ _ _ _ _ _ aa ab a ca cb c ea eb el H
    · cases qL
      · exact vc_l va vb v la lb L host path w _ _ _ _ _ aa ab a ca cb c ea eb el H
      · by_cases h1 : (100 : Int) < (host.length : Int)
        · exact vc_h va vb v la lb L host path w _ _ _ _ _ aa ab a ca cb c ea eb el H h1
        · by_cases h2 : (200 : Int) < (path.length : Int)
          · exact vc_p va vb v la lb L host path w _ _ _ _ _ aa ab a ca cb c ea eb el H h1 h2
          · exact vc_z va vb v la lb L host path w _ _ _ _ _ aa ab a ca cb c ea eb el H h1 h2
end Tk
end Go.Proofs.YthooghgiokgdhaaGreatDoor
