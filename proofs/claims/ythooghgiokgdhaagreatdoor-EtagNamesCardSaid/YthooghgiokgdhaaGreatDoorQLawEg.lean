/- EtagNames: the chapter's examples. -/
import Derived.Test.YthooghgiokgdhaaGreatDoorQEnm
import Derived.Deep.Cut
namespace Go.Proofs.YthooghgiokgdhaaGreatDoor
open Go.RowKit
namespace Tk

/-- what the examples keep: boxes, lists, the tables, and what lay before -/
structure HoldN (w : World) (g1 g23 g24 g27 g28 g11 : Nat) (v25 v26 : Value) (Wz : World) : Prop where
  n1 : Bx Wz g1 81 #[.bool true, .string ⟨#[120, 44, 121]⟩]
  n23 : Bx Wz g23 89 #[.bool false, .string ⟨#[97]⟩, .bool true, .int .i64 784111777, .bool true]
  n24 : Bx Wz g24 89 #[.bool false, .string ⟨#[]⟩, .bool false, .int .i64 0, .bool false]
  n27 : Bx Wz g27 89 #[.bool false, .string ⟨#[]⟩, .bool false, .int .i64 784111777, .bool true]
  n28 : Bx Wz g28 89 #[.bool false, .string ⟨#[]⟩, .bool false, .int .i64 784111778, .bool true]
  t11 : T4 Wz g11
  f25 : IsFlds Wz v25 [(nIMS, daE)]
  f26 : IsFlds Wz v26 aEx
  nm : NamH Wz
  bl : Below w.heap.size w Wz
theorem HoldN.later {w W W' : World} {g1 g23 g24 g27 g28 g11 : Nat} {v25 v26 : Value} (h : HoldN w g1 g23 g24 g27 g28 g11 v25 v26 W) (hb : Below W.heap.size W W') : HoldN w g1 g23 g24 g27 g28 g11 v25 v26 W' :=
  ⟨h.n1.later hb, h.n23.later hb, h.n24.later hb, h.n27.later hb, h.n28.later hb, h.t11.later hb, isFlds_below h.f25 hb, isFlds_below h.f26 hb, h.nm.later hb, h.bl.trans (hb.mono h.bl.size)⟩

theorem enH_HLv : ∀ W : World, Calls Tryz.prog 46 #[] W fun e w' => e = .returned (.bool true) ∧ Below W.heap.size W w' := lives11_any
theorem enH_HO : ∀ (n x : ByteArray) (W : World), Calls Tryz.prog 51 #[.string n, .string x] W fun e w' => e = .returned (.agg #[.string n, .string x]) ∧ Below W.heap.size W w' := eone_any
theorem enH_HQ : ∀ W : World, Calls Tryz.prog 54 #[.string ⟨#[113]⟩] W fun e w' => e = .returned (.agg #[.bool false, .string ⟨#[113]⟩, .bool true, .int .i64 0, .bool false]) ∧ Below W.heap.size W w' := fun W => estrong_any ⟨#[113]⟩ W
theorem enH_HP1 : ∀ W : World, Calls Tryz.prog 47 #[.string ⟨#[87, 47, 34, 120, 44, 121, 34]⟩] W fun e w' => e = .returned (.tuple #[.agg #[.bool true, .string ⟨#[120, 44, 121]⟩], .int .i64 0]) ∧ Below W.heap.size W w' := fun W => enP _ _ _ _ en_p1 (by decide) W
theorem enH_HP2 : ∀ W : World, Calls Tryz.prog 47 #[.string ⟨#[119, 47, 34, 120, 34]⟩] W fun e w' => e = .returned (.tuple #[.agg #[.bool false, .string ⟨#[]⟩], .int .i64 4]) ∧ Below W.heap.size W w' := fun W => enP _ _ _ _ en_p2 (by decide) W
theorem enH_HP3 : ∀ W : World, Calls Tryz.prog 47 #[.string ⟨#[34, 97, 32, 98, 34]⟩] W fun e w' => e = .returned (.tuple #[.agg #[.bool false, .string ⟨#[]⟩], .int .i64 4]) ∧ Below W.heap.size W w' := fun W => enP _ _ _ _ en_p3 (by decide) W
theorem enH_HT1 : ∀ W : World, Calls Tryz.prog 48 #[.agg #[.bool false, .string ⟨#[34]⟩]] W fun e w' => e = .returned (.tuple #[.string ⟨#[]⟩, .int .i64 4]) ∧ Below W.heap.size W w' := fun W => enT (false, [34]) _ _ en_t1 (by decide) W
theorem enH_HT2 : ∀ W : World, Calls Tryz.prog 48 #[.agg #[.bool true, .string ⟨#[]⟩]] W fun e w' => e = .returned (.tuple #[.string ⟨#[87, 47, 34, 34]⟩, .int .i64 0]) ∧ Below W.heap.size W w' := fun W => enT (true, []) _ _ en_t2 (by decide) W
theorem enH_HG1 : ∀ W : World, Calls Tryz.prog 49 #[.slice (some ⟨W.heap.size, 0, none⟩) 2 2] (W.alloc (.cells #[.string ⟨#[34, 97, 34]⟩, .string ⟨#[87, 47, 34, 98, 34]⟩] 9)) fun e w' => ∃ g c, e = .returned (.tuple #[.slice (some ⟨g, 0, none⟩) 2 c, .bool false, .int .i64 0]) ∧ T4 w' g ∧ Below W.heap.size W w' := enG1
theorem enH_HG2 : ∀ W : World, Calls Tryz.prog 49 #[.slice (some ⟨W.heap.size, 0, none⟩) 1 1] (W.alloc (.cells #[.string ⟨#[42]⟩] 9)) fun e w' => ∃ v', e = .returned (.tuple #[v', .bool true, .int .i64 0]) ∧ IsTgs w' v' [] ∧ Below W.heap.size W w' := fun W => enG [[42]] _ _ _ _ en_l2 rfl (by decide) W
theorem enH_HG3 : ∀ W : World, Calls Tryz.prog 49 #[.slice (some ⟨W.heap.size, 0, none⟩) 1 1] (W.alloc (.cells #[.string ⟨#[42, 44, 32, 34, 97, 34]⟩] 9)) fun e w' => ∃ v', e = .returned (.tuple #[v', .bool false, .int .i64 4]) ∧ IsTgs w' v' [] ∧ Below W.heap.size W w' := fun W => enG [[42, 44, 32, 34, 97, 34]] _ _ _ _ en_l3 rfl (by decide) W
theorem enH_HG4 : ∀ W : World, Calls Tryz.prog 49 #[.slice none 0 0] W fun e w' => ∃ v', e = .returned (.tuple #[v', .bool false, .int .i64 4]) ∧ Below W.heap.size W w' := enG0
theorem enH_HF1 : ∀ W : World, NamH W → Calls Tryz.prog 50 #[.slice (some ⟨W.heap.size, 0, none⟩) 2 2, .int .i64 0] (W.alloc (.cells #[.string ⟨#[69, 84, 97, 103]⟩, .string ⟨#[34, 97, 34]⟩, .string ⟨#[76, 97, 115, 116, 45, 77, 111, 100, 105, 102, 105, 101, 100]⟩, .string ⟨#[83, 117, 110, 44, 32, 48, 54, 32, 78, 111, 118, 32, 49, 57, 57, 52, 32, 48, 56, 58, 52, 57, 58, 51, 55, 32, 71, 77, 84]⟩] 31)) fun e w' => e = .returned (.agg #[.bool false, .string ⟨#[97]⟩, .bool true, .int .i64 784111777, .bool true]) ∧ Below W.heap.size W w' := fun W hN => enO [(nET, qaE), (nLM, daE)] _ _ en_o1 rfl (by decide) rfl (by decide) W hN
theorem enH_HF2 : ∀ W : World, NamH W → Calls Tryz.prog 50 #[.slice (some ⟨W.heap.size, 0, none⟩) 3 3, .int .i64 0] (W.alloc (.cells #[.string ⟨#[69, 84, 97, 103]⟩, .string ⟨#[34, 97, 34]⟩, .string ⟨#[69, 84, 97, 103]⟩, .string ⟨#[34, 97, 34]⟩, .string ⟨#[76, 97, 115, 116, 45, 77, 111, 100, 105, 102, 105, 101, 100]⟩, .string ⟨#[120]⟩] 31)) fun e w' => e = .returned (.agg #[.bool false, .string ⟨#[]⟩, .bool false, .int .i64 0, .bool false]) ∧ Below W.heap.size W w' := fun W hN => enO [(nET, qaE), (nET, qaE), (nLM, [120])] _ _ en_o2 rfl (by decide) rfl (by decide) W hN
theorem enH_HA : ∀ W : World, NamH W → Calls Tryz.prog 52 #[.slice (some ⟨W.heap.size, 0, none⟩) 3 3, .agg #[.bool false, .string ⟨#[97]⟩, .bool true, .int .i64 784111777, .bool true]] (W.alloc (.cells #[.string ⟨#[82, 97, 110, 103, 101]⟩, .string ⟨#[120]⟩, .string ⟨#[65]⟩, .string ⟨#[49]⟩, .string ⟨#[105, 102, 45, 110, 111, 110, 101, 45, 109, 97, 116, 99, 104]⟩, .string ⟨#[42]⟩] 31)) fun e w' => ∃ v', e = .returned v' ∧ IsFlds w' v' aEx ∧ Below W.heap.size W w' := fun W hN => (enA _ _ (hN.later (below_allocW W _)) (isFlds_litN W fEx _ rfl (by decide) rfl) (fun n c h => by injection h with h1; cases h1)).mono fun e w' ⟨v', k1, k2, k3⟩ => ⟨v', k1, k2, (below_allocW W _).trans (k3.mono (by simp))⟩
theorem enH_HU1 : ∀ (v : Value) (W : World), NamH W → IsFlds W v [(nIMS, daE)] → Calls Tryz.prog 53 #[v, .agg #[.bool false, .string ⟨#[]⟩, .bool false, .int .i64 784111777, .bool true], .int .i64 0] W fun e w' => e = .returned (.bool true) ∧ Below W.heap.size W w' := fun v W hN h => by have h1 := unch_any v _ laEx 0 W hN h (by decide) (by decide); rw [en_u1] at h1; exact h1
theorem enH_HU2 : ∀ (v : Value) (W : World), NamH W → IsFlds W v [(nIMS, daE)] → Calls Tryz.prog 53 #[v, .agg #[.bool false, .string ⟨#[]⟩, .bool false, .int .i64 784111778, .bool true], .int .i64 0] W fun e w' => e = .returned (.bool false) ∧ Below W.heap.size W w' := fun v W hN h => by have h1 := unch_any v _ ltEx 0 W hN h (by decide) (by decide); rw [en_u2] at h1; exact h1
theorem enH_HU3 : ∀ (v : Value) (W : World), NamH W → IsFlds W v [(nINM, [120]), (nIMS, daE)] → Calls Tryz.prog 53 #[v, .agg #[.bool false, .string ⟨#[]⟩, .bool false, .int .i64 784111777, .bool true], .int .i64 0] W fun e w' => e = .returned (.bool false) ∧ Below W.heap.size W w' := fun v W hN h => by have h1 := unch_any v _ laEx 0 W hN h (by decide) (by decide); rw [en_u3] at h1; exact h1
theorem enH_HU4 : ∀ W : World, NamH W → Calls Tryz.prog 53 #[.slice (some ⟨W.heap.size, 0, none⟩) 1 1, .agg #[.bool false, .string ⟨#[113]⟩, .bool true, .int .i64 0, .bool false], .int .i64 0] (W.alloc (.cells #[.string ⟨#[73, 102, 45, 78, 111, 110, 101, 45, 77, 97, 116, 99, 104]⟩, .string ⟨#[42]⟩] 31)) fun e w' => e = .returned (.bool true) ∧ Below W.heap.size W w' := fun W hN => enU [(nINM, [42])] _ ⟨false, [113], true, 0, false⟩ _ en_u4 rfl (by decide) rfl (by decide) W hN
theorem enH_HU4b : ∀ (v : Value) (W : World), NamH W → IsFlds W v [(nINM, [42])] → Calls Tryz.prog 53 #[v, .agg #[.bool false, .string ⟨#[113]⟩, .bool true, .int .i64 0, .bool false], .int .i64 0] W fun e w' => e = .returned (.bool true) ∧ Below W.heap.size W w' := fun v W hN h => by have h1 := unch_any v _ ⟨false, [113], true, 0, false⟩ 0 W hN h (by decide) (by decide); rw [en_u4] at h1; exact h1
theorem enH_HU5 : ∀ W : World, NamH W → Calls Tryz.prog 53 #[.slice (some ⟨W.heap.size, 0, none⟩) 1 1, .agg #[.bool false, .string ⟨#[]⟩, .bool false, .int .i64 784111777, .bool true], .int .i64 0] (W.alloc (.cells #[.string ⟨#[73, 102, 45, 78, 111, 110, 101, 45, 77, 97, 116, 99, 104]⟩, .string ⟨#[42]⟩] 31)) fun e w' => e = .returned (.bool true) ∧ Below W.heap.size W w' := fun W hN => enU [(nINM, [42])] _ laEx _ en_u5 rfl (by decide) rfl (by decide) W hN
theorem enH_HU6 : ∀ W : World, NamH W → Calls Tryz.prog 53 #[.slice none 0 0, .agg #[.bool false, .string ⟨#[97]⟩, .bool true, .int .i64 784111777, .bool true], .int .i64 0] W fun e w' => e = .returned (.bool false) ∧ Below W.heap.size W w' := fun W hN => by have h1 := unch_any (.slice none 0 0) [] cEx 0 W hN ⟨none, 0, rfl, Nat.le_refl _, fun j f hj => by simp at hj⟩ (by decide) (by decide); rw [en_u6] at h1; exact h1
theorem enH_HSm : ∀ (v : Value) (W : World), IsFlds (W.alloc (.cells #[.string ⟨#[65]⟩, .string ⟨#[49]⟩, .string ⟨#[73, 102, 45, 78, 111, 110, 101, 45, 77, 97, 116, 99, 104]⟩, .string ⟨#[34, 97, 34]⟩, .string ⟨#[73, 102, 45, 77, 111, 100, 105, 102, 105, 101, 100, 45, 83, 105, 110, 99, 101]⟩, .string ⟨#[83, 117, 110, 44, 32, 48, 54, 32, 78, 111, 118, 32, 49, 57, 57, 52, 32, 48, 56, 58, 52, 57, 58, 51, 55, 32, 71, 77, 84]⟩] 31)) v aEx → Calls Tryz.prog 55 #[v, .slice (some ⟨W.heap.size, 0, none⟩) 3 3] (W.alloc (.cells #[.string ⟨#[65]⟩, .string ⟨#[49]⟩, .string ⟨#[73, 102, 45, 78, 111, 110, 101, 45, 77, 97, 116, 99, 104]⟩, .string ⟨#[34, 97, 34]⟩, .string ⟨#[73, 102, 45, 77, 111, 100, 105, 102, 105, 101, 100, 45, 83, 105, 110, 99, 101]⟩, .string ⟨#[83, 117, 110, 44, 32, 48, 54, 32, 78, 111, 118, 32, 49, 57, 57, 52, 32, 48, 56, 58, 52, 57, 58, 51, 55, 32, 71, 77, 84]⟩] 31)) fun e w' => e = .returned (.bool true) ∧ Below W.heap.size W w' := fun v W h => by have h1 := rsamef_any v _ aEx _ _ h (isFlds_litN W [([65], [49]), (nINM, qaE), (nIMS, daE)] _ rfl (by decide) rfl) (fun f hf => en_len f hf) (by decide) (by decide); rw [en_same] at h1; exact h1.mono fun e w' ⟨k1, k3⟩ => ⟨k1, (below_allocW W _).trans (k3.mono (by simp))⟩
theorem enH_HS0 : ∀ W : World, Calls Tryz.prog 56 #[.agg #[.bool false, .string ⟨#[97]⟩], .agg #[.bool false, .string ⟨#[97]⟩]] W fun e w' => e = .returned (.bool true) ∧ Below W.heap.size W w' := fun W => by have h1 := strong_any (false, [97]) (false, [97]) W; rw [en_s.1] at h1; exact h1
theorem enH_HS1 : ∀ W : World, Calls Tryz.prog 56 #[.agg #[.bool true, .string ⟨#[98]⟩], .agg #[.bool true, .string ⟨#[98]⟩]] W fun e w' => e = .returned (.bool false) ∧ Below W.heap.size W w' := fun W => by have h1 := strong_any (true, [98]) (true, [98]) W; rw [en_s.2.1] at h1; exact h1
theorem enH_HWk : ∀ W : World, Calls Tryz.prog 57 #[.agg #[.bool true, .string ⟨#[98]⟩], .agg #[.bool false, .string ⟨#[98]⟩]] W fun e w' => e = .returned (.bool true) ∧ Below W.heap.size W w' := fun W => by have h1 := weak_any (true, [98]) (false, [98]) W; rw [en_s.2.2] at h1; exact h1

set_option maxHeartbeats 32000000 in
set_option maxRecDepth 100000 in
theorem names11_any (w : World) (hN : NamH w) : Calls Tryz.prog 7 #[] w fun e w' => e = .returned (.bool true) ∧ Below w.heap.size w w' := by
  have bl_0 := Lib.hid (Below.refl w.heap.size w)
  have nm_0 := Lib.hid hN
  clear hN
  have HLv := Lib.hid enH_HLv
  have HO := Lib.hid enH_HO
  have HQ := Lib.hid enH_HQ
  have HP1 := Lib.hid enH_HP1
  have HP2 := Lib.hid enH_HP2
  have HP3 := Lib.hid enH_HP3
  have HT1 := Lib.hid enH_HT1
  have HT2 := Lib.hid enH_HT2
  have HG1 := Lib.hid enH_HG1
  have HG2 := Lib.hid enH_HG2
  have HG3 := Lib.hid enH_HG3
  have HG4 := Lib.hid enH_HG4
  have HF1 := Lib.hid enH_HF1
  have HF2 := Lib.hid enH_HF2
  have HA := Lib.hid enH_HA
  have HU1 := Lib.hid enH_HU1
  have HU2 := Lib.hid enH_HU2
  have HU3 := Lib.hid enH_HU3
  have HU4 := Lib.hid enH_HU4
  have HU4b := Lib.hid enH_HU4b
  have HU5 := Lib.hid enH_HU5
  have HU6 := Lib.hid enH_HU6
  have HSm := Lib.hid enH_HSm
  have HS0 := Lib.hid enH_HS0
  have HS1 := Lib.hid enH_HS1
  have HWk := Lib.hid enH_HWk
  go_enter Tryz.func7, Tryz.ntmps7
  go_wp2_with fail
  refine (HLv.out _).mono ?_
  rintro e w1 ⟨rfl, hb⟩
  have bl_1 := Lib.hid (bl_0.out.trans (hb.mono bl_0.out.size))
  have nm_1 := Lib.hid (nm_0.out.later hb)
  clear bl_0 nm_0
  clear hb
  go_wp2_with fail
  refine (HP1.out _).mono ?_
  rintro e w2 ⟨rfl, hb⟩
  have bl_2 := Lib.hid (bl_1.out.trans (hb.mono bl_1.out.size))
  have nm_2 := Lib.hid (nm_1.out.later hb)
  clear bl_1 nm_1
  clear hb
  have hb := below_allocW w2 (.cells #[.bool true, .string ⟨#[120, 44, 121]⟩] 81)
  have hx := Bx.new w2 81 #[.bool true, .string ⟨#[120, 44, 121]⟩]
  have bl_3 := Lib.hid (bl_2.out.trans (hb.mono bl_2.out.size))
  have nm_3 := Lib.hid (nm_2.out.later hb)
  clear bl_2 nm_2
  have n1_n := Lib.hid hx
  clear hb hx
  go_wp2_with (refine wpList_storeE rfl _ _ _ rfl w2.heap.size _ #[.bool false, .string ⟨#[]⟩] #[.bool true, .string ⟨#[120, 44, 121]⟩] rfl rfl (Bx.new w2 _ _) (by kernel_rfl) rfl rfl ?_)
  generalize w2.alloc (.cells #[.bool true, .string ⟨#[120, 44, 121]⟩] 81) = w3 at *
  generalize w2.heap.size = g1 at *
  refine (HP2.out _).mono ?_
  rintro e w4 ⟨rfl, hb⟩
  have bl_4 := Lib.hid (bl_3.out.trans (hb.mono bl_3.out.size))
  have nm_4 := Lib.hid (nm_3.out.later hb)
  have n1_4 := Lib.hid (n1_n.out.later hb)
  clear bl_3 nm_3 n1_n
  clear hb
  have hb := below_allocW w4 (.cells #[.bool false, .string ⟨#[]⟩] 81)
  have hx := Bx.new w4 81 #[.bool false, .string ⟨#[]⟩]
  have bl_5 := Lib.hid (bl_4.out.trans (hb.mono bl_4.out.size))
  have nm_5 := Lib.hid (nm_4.out.later hb)
  have n1_5 := Lib.hid (n1_4.out.later hb)
  clear bl_4 nm_4 n1_4
  have n3_n := Lib.hid hx
  clear hb hx
  go_wp2_with (refine wpList_storeE rfl _ _ _ rfl w4.heap.size _ #[.bool false, .string ⟨#[]⟩] #[.bool false, .string ⟨#[]⟩] rfl rfl (Bx.new w4 _ _) (by kernel_rfl) rfl rfl ?_)
  generalize w4.alloc (.cells #[.bool false, .string ⟨#[]⟩] 81) = w5 at *
  generalize w4.heap.size = g3 at *
  refine (HP3.out _).mono ?_
  rintro e w6 ⟨rfl, hb⟩
  have bl_6 := Lib.hid (bl_5.out.trans (hb.mono bl_5.out.size))
  have nm_6 := Lib.hid (nm_5.out.later hb)
  have n1_6 := Lib.hid (n1_5.out.later hb)
  have n3_6 := Lib.hid (n3_n.out.later hb)
  clear bl_5 nm_5 n1_5 n3_n
  clear hb
  have hb := below_allocW w6 (.cells #[.bool false, .string ⟨#[]⟩] 81)
  have hx := Bx.new w6 81 #[.bool false, .string ⟨#[]⟩]
  have bl_7 := Lib.hid (bl_6.out.trans (hb.mono bl_6.out.size))
  have nm_7 := Lib.hid (nm_6.out.later hb)
  have n1_7 := Lib.hid (n1_6.out.later hb)
  have n3_7 := Lib.hid (n3_6.out.later hb)
  clear bl_6 nm_6 n1_6 n3_6
  have n5_n := Lib.hid hx
  clear hb hx
  go_wp2_with (refine wpList_storeE rfl _ _ _ rfl w6.heap.size _ #[.bool false, .string ⟨#[]⟩] #[.bool false, .string ⟨#[]⟩] rfl rfl (Bx.new w6 _ _) (by kernel_rfl) rfl rfl ?_)
  generalize w6.alloc (.cells #[.bool false, .string ⟨#[]⟩] 81) = w7 at *
  generalize w6.heap.size = g5 at *
  clear n3_7
  clear n5_n
  refine (HT1.out _).mono ?_
  rintro e w8 ⟨rfl, hb⟩
  have bl_8 := Lib.hid (bl_7.out.trans (hb.mono bl_7.out.size))
  have nm_8 := Lib.hid (nm_7.out.later hb)
  have n1_8 := Lib.hid (n1_7.out.later hb)
  clear bl_7 nm_7 n1_7
  clear hb
  go_wp2_with fail
  refine (HT2.out _).mono ?_
  rintro e w9 ⟨rfl, hb⟩
  have bl_9 := Lib.hid (bl_8.out.trans (hb.mono bl_8.out.size))
  have nm_9 := Lib.hid (nm_8.out.later hb)
  have n1_9 := Lib.hid (n1_8.out.later hb)
  clear bl_8 nm_8 n1_8
  clear hb
  go_wp2_with fail
  refine (HG1.out _).mono ?_
  rintro e w10 ⟨g11, c11, rfl, ht, hb⟩
  have bl_10 := Lib.hid (bl_9.out.trans (hb.mono bl_9.out.size))
  have nm_10 := Lib.hid (nm_9.out.later hb)
  have n1_10 := Lib.hid (n1_9.out.later hb)
  clear bl_9 nm_9 n1_9
  clear hb
  have t11_0 := Lib.hid ht
  clear ht
  go_wp2_with fail
  refine (HG2.out _).mono ?_
  rintro e w11 ⟨v14, rfl, -, hb⟩
  have bl_11 := Lib.hid (bl_10.out.trans (hb.mono bl_10.out.size))
  have nm_11 := Lib.hid (nm_10.out.later hb)
  have n1_11 := Lib.hid (n1_10.out.later hb)
  have t11_11 := Lib.hid (t11_0.out.later hb)
  clear bl_10 nm_10 n1_10 t11_0
  clear hb
  go_wp2_with fail
  refine (HG3.out _).mono ?_
  rintro e w12 ⟨v17, rfl, -, hb⟩
  have bl_12 := Lib.hid (bl_11.out.trans (hb.mono bl_11.out.size))
  have nm_12 := Lib.hid (nm_11.out.later hb)
  have n1_12 := Lib.hid (n1_11.out.later hb)
  have t11_12 := Lib.hid (t11_11.out.later hb)
  clear bl_11 nm_11 n1_11 t11_11
  clear hb
  go_wp2_with fail
  refine (HG4.out _).mono ?_
  rintro e w13 ⟨v20, rfl, hb⟩
  have bl_13 := Lib.hid (bl_12.out.trans (hb.mono bl_12.out.size))
  have nm_13 := Lib.hid (nm_12.out.later hb)
  have n1_13 := Lib.hid (n1_12.out.later hb)
  have t11_13 := Lib.hid (t11_12.out.later hb)
  clear bl_12 nm_12 n1_12 t11_12
  clear hb
  go_wp2_with fail
  refine (HO.out _ _ _).mono ?_
  rintro e w14 ⟨rfl, hb⟩
  have bl_14 := Lib.hid (bl_13.out.trans (hb.mono bl_13.out.size))
  have nm_14 := Lib.hid (nm_13.out.later hb)
  have n1_14 := Lib.hid (n1_13.out.later hb)
  have t11_14 := Lib.hid (t11_13.out.later hb)
  clear bl_13 nm_13 n1_13 t11_13
  clear hb
  go_wp2_with fail
  refine (HO.out _ _ _).mono ?_
  rintro e w15 ⟨rfl, hb⟩
  have bl_15 := Lib.hid (bl_14.out.trans (hb.mono bl_14.out.size))
  have nm_15 := Lib.hid (nm_14.out.later hb)
  have n1_15 := Lib.hid (n1_14.out.later hb)
  have t11_15 := Lib.hid (t11_14.out.later hb)
  clear bl_14 nm_14 n1_14 t11_14
  clear hb
  go_wp2_with fail
  refine (HF1.out _ nm_15.out).mono ?_
  rintro e w16 ⟨rfl, hb⟩
  have bl_16 := Lib.hid (bl_15.out.trans (hb.mono bl_15.out.size))
  have nm_16 := Lib.hid (nm_15.out.later hb)
  have n1_16 := Lib.hid (n1_15.out.later hb)
  have t11_16 := Lib.hid (t11_15.out.later hb)
  clear bl_15 nm_15 n1_15 t11_15
  clear hb
  have hb := below_allocW w16 (.cells #[.bool false, .string ⟨#[97]⟩, .bool true, .int .i64 784111777, .bool true] 89)
  have hx := Bx.new w16 89 #[.bool false, .string ⟨#[97]⟩, .bool true, .int .i64 784111777, .bool true]
  have bl_17 := Lib.hid (bl_16.out.trans (hb.mono bl_16.out.size))
  have nm_17 := Lib.hid (nm_16.out.later hb)
  have n1_17 := Lib.hid (n1_16.out.later hb)
  have t11_17 := Lib.hid (t11_16.out.later hb)
  clear bl_16 nm_16 n1_16 t11_16
  have n23_n := Lib.hid hx
  clear hb hx
  go_wp2_with (refine wpList_storeE rfl _ _ _ rfl w16.heap.size _ #[.bool false, .string ⟨#[]⟩, .bool false, .int .i64 0, .bool false] #[.bool false, .string ⟨#[97]⟩, .bool true, .int .i64 784111777, .bool true] rfl rfl (Bx.new w16 _ _) (by kernel_rfl) rfl rfl ?_)
  generalize w16.alloc (.cells #[.bool false, .string ⟨#[97]⟩, .bool true, .int .i64 784111777, .bool true] 89) = w17 at *
  generalize w16.heap.size = g23 at *
  refine (HO.out _ _ _).mono ?_
  rintro e w18 ⟨rfl, hb⟩
  have bl_18 := Lib.hid (bl_17.out.trans (hb.mono bl_17.out.size))
  have nm_18 := Lib.hid (nm_17.out.later hb)
  have n1_18 := Lib.hid (n1_17.out.later hb)
  have t11_18 := Lib.hid (t11_17.out.later hb)
  have n23_18 := Lib.hid (n23_n.out.later hb)
  clear bl_17 nm_17 n1_17 t11_17 n23_n
  clear hb
  go_wp2_with fail
  refine (HO.out _ _ _).mono ?_
  rintro e w19 ⟨rfl, hb⟩
  have bl_19 := Lib.hid (bl_18.out.trans (hb.mono bl_18.out.size))
  have nm_19 := Lib.hid (nm_18.out.later hb)
  have n1_19 := Lib.hid (n1_18.out.later hb)
  have t11_19 := Lib.hid (t11_18.out.later hb)
  have n23_19 := Lib.hid (n23_18.out.later hb)
  clear bl_18 nm_18 n1_18 t11_18 n23_18
  clear hb
  go_wp2_with fail
  refine (HO.out _ _ _).mono ?_
  rintro e w20 ⟨rfl, hb⟩
  have bl_20 := Lib.hid (bl_19.out.trans (hb.mono bl_19.out.size))
  have nm_20 := Lib.hid (nm_19.out.later hb)
  have n1_20 := Lib.hid (n1_19.out.later hb)
  have t11_20 := Lib.hid (t11_19.out.later hb)
  have n23_20 := Lib.hid (n23_19.out.later hb)
  clear bl_19 nm_19 n1_19 t11_19 n23_19
  clear hb
  go_wp2_with fail
  refine (HF2.out _ nm_20.out).mono ?_
  rintro e w21 ⟨rfl, hb⟩
  have bl_21 := Lib.hid (bl_20.out.trans (hb.mono bl_20.out.size))
  have nm_21 := Lib.hid (nm_20.out.later hb)
  have n1_21 := Lib.hid (n1_20.out.later hb)
  have t11_21 := Lib.hid (t11_20.out.later hb)
  have n23_21 := Lib.hid (n23_20.out.later hb)
  clear bl_20 nm_20 n1_20 t11_20 n23_20
  clear hb
  have hb := below_allocW w21 (.cells #[.bool false, .string ⟨#[]⟩, .bool false, .int .i64 0, .bool false] 89)
  have hx := Bx.new w21 89 #[.bool false, .string ⟨#[]⟩, .bool false, .int .i64 0, .bool false]
  have bl_22 := Lib.hid (bl_21.out.trans (hb.mono bl_21.out.size))
  have nm_22 := Lib.hid (nm_21.out.later hb)
  have n1_22 := Lib.hid (n1_21.out.later hb)
  have t11_22 := Lib.hid (t11_21.out.later hb)
  have n23_22 := Lib.hid (n23_21.out.later hb)
  clear bl_21 nm_21 n1_21 t11_21 n23_21
  have n24_n := Lib.hid hx
  clear hb hx
  go_wp2_with (refine wpList_storeE rfl _ _ _ rfl w21.heap.size _ #[.bool false, .string ⟨#[]⟩, .bool false, .int .i64 0, .bool false] #[.bool false, .string ⟨#[]⟩, .bool false, .int .i64 0, .bool false] rfl rfl (Bx.new w21 _ _) (by kernel_rfl) rfl rfl ?_)
  generalize w21.alloc (.cells #[.bool false, .string ⟨#[]⟩, .bool false, .int .i64 0, .bool false] 89) = w22 at *
  generalize w21.heap.size = g24 at *
  refine (HO.out _ _ _).mono ?_
  rintro e w23 ⟨rfl, hb⟩
  have bl_23 := Lib.hid (bl_22.out.trans (hb.mono bl_22.out.size))
  have nm_23 := Lib.hid (nm_22.out.later hb)
  have n1_23 := Lib.hid (n1_22.out.later hb)
  have t11_23 := Lib.hid (t11_22.out.later hb)
  have n23_23 := Lib.hid (n23_22.out.later hb)
  have n24_23 := Lib.hid (n24_n.out.later hb)
  clear bl_22 nm_22 n1_22 t11_22 n23_22 n24_n
  clear hb
  have hb := below_allocW w23 (.cells #[.string ⟨#[73, 102, 45, 77, 111, 100, 105, 102, 105, 101, 100, 45, 83, 105, 110, 99, 101]⟩, .string ⟨#[83, 117, 110, 44, 32, 48, 54, 32, 78, 111, 118, 32, 49, 57, 57, 52, 32, 48, 56, 58, 52, 57, 58, 51, 55, 32, 71, 77, 84]⟩] 31)
  have hf := isFlds_litN w23 [(nIMS, daE)] #[.string ⟨#[73, 102, 45, 77, 111, 100, 105, 102, 105, 101, 100, 45, 83, 105, 110, 99, 101]⟩, .string ⟨#[83, 117, 110, 44, 32, 48, 54, 32, 78, 111, 118, 32, 49, 57, 57, 52, 32, 48, 56, 58, 52, 57, 58, 51, 55, 32, 71, 77, 84]⟩] rfl (by decide) rfl
  have bl_24 := Lib.hid (bl_23.out.trans (hb.mono bl_23.out.size))
  have nm_24 := Lib.hid (nm_23.out.later hb)
  have n1_24 := Lib.hid (n1_23.out.later hb)
  have t11_24 := Lib.hid (t11_23.out.later hb)
  have n23_24 := Lib.hid (n23_23.out.later hb)
  have n24_24 := Lib.hid (n24_23.out.later hb)
  clear bl_23 nm_23 n1_23 t11_23 n23_23 n24_23
  have f25_n := Lib.hid hf
  clear hb hf
  go_upto_region 15 with fail
  generalize w23.alloc (.cells #[.string ⟨#[73, 102, 45, 77, 111, 100, 105, 102, 105, 101, 100, 45, 83, 105, 110, 99, 101]⟩, .string ⟨#[83, 117, 110, 44, 32, 48, 54, 32, 78, 111, 118, 32, 49, 57, 57, 52, 32, 48, 56, 58, 52, 57, 58, 51, 55, 32, 71, 77, 84]⟩] 31) = w24 at *
  generalize w23.heap.size = g25 at *
  have hv25 : (Value.slice (some ⟨g25, 0, none⟩) 1 1).ownBlock = some g25 := rfl
  have hb : Below w24.heap.size w24 w24.drew := (Below.refl _ _).drew
  have bl_25 := Lib.hid (bl_24.out.trans (hb.mono bl_24.out.size))
  have nm_25 := Lib.hid (nm_24.out.later hb)
  have n1_25 := Lib.hid (n1_24.out.later hb)
  have t11_25 := Lib.hid (t11_24.out.later hb)
  have n23_25 := Lib.hid (n23_24.out.later hb)
  have n24_25 := Lib.hid (n24_24.out.later hb)
  have f25_25 := Lib.hid (isFlds_below f25_n.out hb)
  clear bl_24 nm_24 n1_24 t11_24 n23_24 n24_24 f25_n
  have hHeld0 : (fun Wz : World => Bx Wz g1 81 #[.bool true, .string ⟨#[120, 44, 121]⟩] ∧ Bx Wz g23 89 #[.bool false, .string ⟨#[97]⟩, .bool true, .int .i64 784111777, .bool true] ∧ Bx Wz g24 89 #[.bool false, .string ⟨#[]⟩, .bool false, .int .i64 0, .bool false] ∧ T4 Wz g11 ∧ IsFlds Wz (.slice (some ⟨g25, 0, none⟩) 1 1) [(nIMS, daE)] ∧ NamH Wz ∧ Below w.heap.size w Wz) w24.drew := ⟨n1_25.out, n23_25.out, n24_25.out, t11_25.out, f25_25.out, nm_25.out, bl_25.out⟩
  clear hb hv25 bl_25 nm_25 n1_25 t11_25 n23_25 n24_25 f25_25
  refine wp_region_held_drew (S := (fun Wz : World => Bx Wz g1 81 #[.bool true, .string ⟨#[120, 44, 121]⟩] ∧ Bx Wz g23 89 #[.bool false, .string ⟨#[97]⟩, .bool true, .int .i64 784111777, .bool true] ∧ Bx Wz g24 89 #[.bool false, .string ⟨#[]⟩, .bool false, .int .i64 0, .bool false] ∧ T4 Wz g11 ∧ IsFlds Wz (.slice (some ⟨g25, 0, none⟩) 1 1) [(nIMS, daE)] ∧ NamH Wz ∧ Below w.heap.size w Wz)) (by kernel_rfl) hHeld0 (fun hHeld => ?_)
  refine wpAnyH_take (i := 4) (v := .agg #[.bool false, .string ⟨#[97]⟩, .bool true, .int .i64 784111777, .bool true]) rfl (by kernel_rfl) (by kernel_rfl) (by kernel_rfl) (fun _ _ _ h => h) (Or.inl ⟨by kernel_rfl, ?_⟩) (by assumption) ?_
  case refine_1 => exact fun Wz hSw => exec_loadE _ _ (by rfl) _ _ #[.bool false, .string ⟨#[97]⟩, .bool true, .int .i64 784111777, .bool true] (0, 0) _ (by rfl) hSw.2.1 Tryz.underlying89 rfl (by kernel_rfl)
  try simp only [Act.put, List.getElem_toArray, List.getElem_cons_succ, List.getElem_cons_zero, List.setIfInBounds_toArray, List.set_cons_zero, List.set_cons_succ]
  refine wpAnyH_ready (rs := [0]) (by kernel_rfl) (by simp) ?_
  refine AllReadyH.cons rfl (fun K hK => ?_) AllReadyH.nil
  go_simp
  refine (HO.out _ _ _).mono ?_
  rintro e y1 ⟨rfl, hbb⟩
  have hHeld1 : (fun Wz : World => Bx Wz g1 81 #[.bool true, .string ⟨#[120, 44, 121]⟩] ∧ Bx Wz g23 89 #[.bool false, .string ⟨#[97]⟩, .bool true, .int .i64 784111777, .bool true] ∧ Bx Wz g24 89 #[.bool false, .string ⟨#[]⟩, .bool false, .int .i64 0, .bool false] ∧ T4 Wz g11 ∧ IsFlds Wz (.slice (some ⟨g25, 0, none⟩) 1 1) [(nIMS, daE)] ∧ NamH Wz ∧ Below w.heap.size w Wz) y1 := ⟨hHeld0.1.later hbb, hHeld0.2.1.later hbb, hHeld0.2.2.1.later hbb, hHeld0.2.2.2.1.later hbb, isFlds_below hHeld0.2.2.2.2.1 hbb, hHeld0.2.2.2.2.2.1.later hbb, hHeld0.2.2.2.2.2.2.trans (hbb.mono hHeld0.2.2.2.2.2.2.size)⟩
  clear hbb
  go_simp
  refine hK.out _ _ hHeld1 (fun hHeld2 => ?_)
  clear hK K hHeld2
  try simp only [Act.put, List.getElem_toArray, List.getElem_cons_zero, List.setIfInBounds_toArray, List.set_cons_zero, List.set_cons_succ]
  refine wpAnyH_ready (rs := [1]) (by kernel_rfl) (by simp) ?_
  refine AllReadyH.cons rfl (fun K hK => ?_) AllReadyH.nil
  go_simp
  refine (HO.out _ _ _).mono ?_
  rintro e y2 ⟨rfl, hbb⟩
  have hHeld2 : (fun Wz : World => Bx Wz g1 81 #[.bool true, .string ⟨#[120, 44, 121]⟩] ∧ Bx Wz g23 89 #[.bool false, .string ⟨#[97]⟩, .bool true, .int .i64 784111777, .bool true] ∧ Bx Wz g24 89 #[.bool false, .string ⟨#[]⟩, .bool false, .int .i64 0, .bool false] ∧ T4 Wz g11 ∧ IsFlds Wz (.slice (some ⟨g25, 0, none⟩) 1 1) [(nIMS, daE)] ∧ NamH Wz ∧ Below w.heap.size w Wz) y2 := ⟨hHeld1.1.later hbb, hHeld1.2.1.later hbb, hHeld1.2.2.1.later hbb, hHeld1.2.2.2.1.later hbb, isFlds_below hHeld1.2.2.2.2.1 hbb, hHeld1.2.2.2.2.2.1.later hbb, hHeld1.2.2.2.2.2.2.trans (hbb.mono hHeld1.2.2.2.2.2.2.size)⟩
  clear hbb
  go_simp
  refine hK.out _ _ hHeld2 (fun hHeld2 => ?_)
  clear hK K hHeld2
  try simp only [Act.put, List.getElem_toArray, List.getElem_cons_succ, List.getElem_cons_zero, List.setIfInBounds_toArray, List.set_cons_zero, List.set_cons_succ]
  refine wpAnyH_ready (rs := [2]) (by kernel_rfl) (by simp) ?_
  refine AllReadyH.cons rfl (fun K hK => ?_) AllReadyH.nil
  go_simp
  refine (HO.out _ _ _).mono ?_
  rintro e y3 ⟨rfl, hbb⟩
  have hHeld3 : (fun Wz : World => Bx Wz g1 81 #[.bool true, .string ⟨#[120, 44, 121]⟩] ∧ Bx Wz g23 89 #[.bool false, .string ⟨#[97]⟩, .bool true, .int .i64 784111777, .bool true] ∧ Bx Wz g24 89 #[.bool false, .string ⟨#[]⟩, .bool false, .int .i64 0, .bool false] ∧ T4 Wz g11 ∧ IsFlds Wz (.slice (some ⟨g25, 0, none⟩) 1 1) [(nIMS, daE)] ∧ NamH Wz ∧ Below w.heap.size w Wz) y3 := ⟨hHeld2.1.later hbb, hHeld2.2.1.later hbb, hHeld2.2.2.1.later hbb, hHeld2.2.2.2.1.later hbb, isFlds_below hHeld2.2.2.2.2.1 hbb, hHeld2.2.2.2.2.2.1.later hbb, hHeld2.2.2.2.2.2.2.trans (hbb.mono hHeld2.2.2.2.2.2.2.size)⟩
  clear hbb
  go_simp
  refine hK.out _ _ hHeld3 (fun hHeld2 => ?_)
  clear hK K hHeld2
  try simp only [Act.put, List.getElem_toArray, List.getElem_cons_succ, List.getElem_cons_zero, List.setIfInBounds_toArray, List.set_cons_zero, List.set_cons_succ]
  refine wpAnyH_ready (rs := [3]) (by kernel_rfl) (by simp) ?_
  refine AllReadyH.cons rfl (fun K hK => ?_) AllReadyH.nil
  go_simp
  have hbb := below_allocW y3 (Obj.cells #[.string ⟨#[82, 97, 110, 103, 101]⟩, .string ⟨#[120]⟩, .string ⟨#[65]⟩, .string ⟨#[49]⟩, .string ⟨#[105, 102, 45, 110, 111, 110, 101, 45, 109, 97, 116, 99, 104]⟩, .string ⟨#[42]⟩] 31)
  have hHeld4 : (fun Wz : World => Bx Wz g1 81 #[.bool true, .string ⟨#[120, 44, 121]⟩] ∧ Bx Wz g23 89 #[.bool false, .string ⟨#[97]⟩, .bool true, .int .i64 784111777, .bool true] ∧ Bx Wz g24 89 #[.bool false, .string ⟨#[]⟩, .bool false, .int .i64 0, .bool false] ∧ T4 Wz g11 ∧ IsFlds Wz (.slice (some ⟨g25, 0, none⟩) 1 1) [(nIMS, daE)] ∧ NamH Wz ∧ Below w.heap.size w Wz) (y3.alloc (Obj.cells #[.string ⟨#[82, 97, 110, 103, 101]⟩, .string ⟨#[120]⟩, .string ⟨#[65]⟩, .string ⟨#[49]⟩, .string ⟨#[105, 102, 45, 110, 111, 110, 101, 45, 109, 97, 116, 99, 104]⟩, .string ⟨#[42]⟩] 31)) := ⟨hHeld3.1.later hbb, hHeld3.2.1.later hbb, hHeld3.2.2.1.later hbb, hHeld3.2.2.2.1.later hbb, isFlds_below hHeld3.2.2.2.2.1 hbb, hHeld3.2.2.2.2.2.1.later hbb, hHeld3.2.2.2.2.2.2.trans (hbb.mono hHeld3.2.2.2.2.2.2.size)⟩
  clear hbb
  refine hK.out _ _ hHeld4 (fun hHeld2 => ?_)
  clear hK K hHeld2
  try simp only [Act.put, List.getElem_toArray, List.getElem_cons_succ, List.getElem_cons_zero, List.setIfInBounds_toArray, List.set_cons_zero, List.set_cons_succ]
  refine wpAnyH_ready (rs := [5]) (by kernel_rfl) (by simp) ?_
  refine AllReadyH.cons rfl (fun K hK => ?_) AllReadyH.nil
  go_simp
  refine (HA.out y3 hHeld3.2.2.2.2.2.1).mono ?_
  rintro e z1 ⟨v26, rfl, hf26, hbb⟩
  have hHeld5 : (fun Wz : World => Bx Wz g1 81 #[.bool true, .string ⟨#[120, 44, 121]⟩] ∧ Bx Wz g23 89 #[.bool false, .string ⟨#[97]⟩, .bool true, .int .i64 784111777, .bool true] ∧ Bx Wz g24 89 #[.bool false, .string ⟨#[]⟩, .bool false, .int .i64 0, .bool false] ∧ T4 Wz g11 ∧ IsFlds Wz (.slice (some ⟨g25, 0, none⟩) 1 1) [(nIMS, daE)] ∧ NamH Wz ∧ Below w.heap.size w Wz) z1 := ⟨hHeld3.1.later hbb, hHeld3.2.1.later hbb, hHeld3.2.2.1.later hbb, hHeld3.2.2.2.1.later hbb, isFlds_below hHeld3.2.2.2.2.1 hbb, hHeld3.2.2.2.2.2.1.later hbb, hHeld3.2.2.2.2.2.2.trans (hbb.mono hHeld3.2.2.2.2.2.2.size)⟩
  clear hbb
  go_simp
  refine hK.out _ _ hHeld5 (fun hHeld2 => ?_)
  clear hK K hHeld2
  try simp only [Act.put, List.getElem_toArray, List.getElem_cons_succ, List.getElem_cons_zero, List.setIfInBounds_toArray, List.set_cons_zero, List.set_cons_succ]
  refine wpAnyH_take (i := 6) (v := ?_) rfl (by kernel_rfl) (by kernel_rfl) (by kernel_rfl) (fun _ _ _ h => h) (Or.inl ⟨by kernel_rfl, ?_⟩) (by assumption) ?_
  case refine_2 => (intro Wz hSw; go_simp; try with_reducible rfl)
  try simp only [Act.put, List.getElem_toArray, List.getElem_cons_succ, List.getElem_cons_zero, List.setIfInBounds_toArray, List.set_cons_zero, List.set_cons_succ]
  refine wpAnyH_done (by kernel_rfl) ?_ _
  have n1_k := Lib.hid hHeld5.1
  have n23_k := Lib.hid hHeld5.2.1
  have n24_k := Lib.hid hHeld5.2.2.1
  have t11_k := Lib.hid hHeld5.2.2.2.1
  have f25_k := Lib.hid hHeld5.2.2.2.2.1
  have nm_k := Lib.hid hHeld5.2.2.2.2.2.1
  have bl_k := Lib.hid hHeld5.2.2.2.2.2.2
  have f26_k := Lib.hid hf26
  clear hf26 hHeld0 hHeld1 hHeld2 hHeld3 hHeld4 hHeld5
  have hb := below_allocW z1 (.cells #[.bool false, .string ⟨#[]⟩, .bool false, .int .i64 784111777, .bool true] 89)
  have hx := Bx.new z1 89 #[.bool false, .string ⟨#[]⟩, .bool false, .int .i64 784111777, .bool true]
  have n1_26 := Lib.hid (n1_k.out.later hb)
  have n23_26 := Lib.hid (n23_k.out.later hb)
  have n24_26 := Lib.hid (n24_k.out.later hb)
  have t11_26 := Lib.hid (t11_k.out.later hb)
  have f25_26 := Lib.hid (isFlds_below f25_k.out hb)
  have nm_26 := Lib.hid (nm_k.out.later hb)
  have bl_26 := Lib.hid (bl_k.out.trans (hb.mono bl_k.out.size))
  have f26_26 := Lib.hid (isFlds_below f26_k.out hb)
  clear n1_k n23_k n24_k t11_k f25_k nm_k bl_k f26_k
  have n27_n := Lib.hid hx
  clear hb hx
  go_upto_region 17 with (refine wpList_storeE rfl _ _ _ rfl z1.heap.size _ #[.bool false, .string ⟨#[]⟩, .bool false, .int .i64 0, .bool false] #[.bool false, .string ⟨#[]⟩, .bool false, .int .i64 784111777, .bool true] rfl rfl (Bx.new z1 _ _) (by kernel_rfl) rfl rfl ?_)
  generalize z1.alloc (.cells #[.bool false, .string ⟨#[]⟩, .bool false, .int .i64 784111777, .bool true] 89) = w25 at *
  generalize z1.heap.size = g27 at *
  have hb := below_allocW w25 (.cells #[.bool false, .string ⟨#[]⟩, .bool false, .int .i64 784111778, .bool true] 89)
  have hx := Bx.new w25 89 #[.bool false, .string ⟨#[]⟩, .bool false, .int .i64 784111778, .bool true]
  have n1_27 := Lib.hid (n1_26.out.later hb)
  have n23_27 := Lib.hid (n23_26.out.later hb)
  have n24_27 := Lib.hid (n24_26.out.later hb)
  have t11_27 := Lib.hid (t11_26.out.later hb)
  have f25_27 := Lib.hid (isFlds_below f25_26.out hb)
  have nm_27 := Lib.hid (nm_26.out.later hb)
  have bl_27 := Lib.hid (bl_26.out.trans (hb.mono bl_26.out.size))
  have f26_27 := Lib.hid (isFlds_below f26_26.out hb)
  have n27_27 := Lib.hid (n27_n.out.later hb)
  clear n1_26 n23_26 n24_26 t11_26 f25_26 nm_26 bl_26 f26_26 n27_n
  have n28_n := Lib.hid hx
  clear hb hx
  go_upto_region 18 with (refine wpList_storeE rfl _ _ _ rfl w25.heap.size _ #[.bool false, .string ⟨#[]⟩, .bool false, .int .i64 0, .bool false] #[.bool false, .string ⟨#[]⟩, .bool false, .int .i64 784111778, .bool true] rfl rfl (Bx.new w25 _ _) (by kernel_rfl) rfl rfl ?_)
  generalize w25.alloc (.cells #[.bool false, .string ⟨#[]⟩, .bool false, .int .i64 784111778, .bool true] 89) = w26 at *
  generalize w25.heap.size = g28 at *
  have hb : Below w26.heap.size w26 w26.drew := (Below.refl _ _).drew
  have n1_28 := Lib.hid (n1_27.out.later hb)
  have n23_28 := Lib.hid (n23_27.out.later hb)
  have n24_28 := Lib.hid (n24_27.out.later hb)
  have t11_28 := Lib.hid (t11_27.out.later hb)
  have f25_28 := Lib.hid (isFlds_below f25_27.out hb)
  have nm_28 := Lib.hid (nm_27.out.later hb)
  have bl_28 := Lib.hid (bl_27.out.trans (hb.mono bl_27.out.size))
  have f26_28 := Lib.hid (isFlds_below f26_27.out hb)
  have n27_28 := Lib.hid (n27_27.out.later hb)
  have n28_28 := Lib.hid (n28_n.out.later hb)
  clear n1_27 n23_27 n24_27 t11_27 f25_27 nm_27 bl_27 f26_27 n27_27 n28_n
  have hHeld0 : (fun Wz : World => HoldN w g1 g23 g24 g27 g28 g11 (.slice (some ⟨g25, 0, none⟩) 1 1) v26 Wz) w26.drew := ⟨n1_28.out, n23_28.out, n24_28.out, n27_28.out, n28_28.out, t11_28.out, f25_28.out, f26_28.out, nm_28.out, bl_28.out⟩
  clear hb n1_28 n23_28 n24_28 t11_28 f25_28 nm_28 bl_28 f26_28 n27_28 n28_28
  simp only [List.append_eq, List.cons_append, List.nil_append]
  refine wp_region_held_drew (S := (fun Wz : World => HoldN w g1 g23 g24 g27 g28 g11 (.slice (some ⟨g25, 0, none⟩) 1 1) v26 Wz)) (by kernel_rfl) hHeld0 (fun hHeld => ?_)
  refine wpAnyH_take (i := 0) (v := .int .i64 0) rfl (by as_aux_lemma => kernel_rfl) (by as_aux_lemma => kernel_rfl) (by as_aux_lemma => kernel_rfl) (fun _ _ _ h => h) (Or.inl ⟨by as_aux_lemma => kernel_rfl, ?_⟩) (by assumption) ?_
  case refine_1 => (intro Wz hSw; go_simp; try with_reducible rfl)
  try simp only [Act.put, List.getElem_toArray, List.getElem_cons_zero, List.setIfInBounds_toArray, List.set_cons_zero, List.set_cons_succ]
  refine wpAnyH_take (i := 1) (v := .bool true) rfl (by as_aux_lemma => kernel_rfl) (by as_aux_lemma => kernel_rfl) (by as_aux_lemma => kernel_rfl) (fun _ _ _ h => h) (Or.inl ⟨by as_aux_lemma => kernel_rfl, ?_⟩) (by assumption) ?_
  case refine_1 => (intro Wz hSw; go_simp; try with_reducible rfl)
  try simp only [Act.put, List.getElem_toArray, List.getElem_cons_succ, List.getElem_cons_zero, List.setIfInBounds_toArray, List.set_cons_zero, List.set_cons_succ]
  refine wpAnyH_take (i := 2) (v := .bool true) rfl (by as_aux_lemma => kernel_rfl) (by as_aux_lemma => kernel_rfl) (by as_aux_lemma => kernel_rfl) (fun _ _ _ h => h) (Or.inl ⟨by as_aux_lemma => kernel_rfl, ?_⟩) (by assumption) ?_
  case refine_1 => (intro Wz hSw; go_simp; try with_reducible rfl)
  try simp only [Act.put, List.getElem_toArray, List.getElem_cons_succ, List.getElem_cons_zero, List.setIfInBounds_toArray, List.set_cons_zero, List.set_cons_succ]
  refine wpAnyH_take (i := 3) (v := .agg #[.bool true, .string ⟨#[120, 44, 121]⟩]) rfl (by as_aux_lemma => kernel_rfl) (by as_aux_lemma => kernel_rfl) (by as_aux_lemma => kernel_rfl) (fun _ _ _ h => h) (Or.inl ⟨by as_aux_lemma => kernel_rfl, ?_⟩) (by assumption) ?_
  case refine_1 => exact fun Wz hSw => exec_loadE _ _ (by rfl) _ _ #[.bool true, .string ⟨#[120, 44, 121]⟩] (0, 0) _ (by rfl) hSw.n1 Tryz.underlying81 rfl (by kernel_rfl)
  try simp only [Act.put, List.getElem_toArray, List.getElem_cons_succ, List.getElem_cons_zero, List.setIfInBounds_toArray, List.set_cons_zero, List.set_cons_succ]
  refine wpAnyH_take (i := 4) (v := .agg #[.bool true, .string ⟨#[120, 44, 121]⟩]) rfl (by as_aux_lemma => kernel_rfl) (by as_aux_lemma => kernel_rfl) (by as_aux_lemma => kernel_rfl) (fun _ _ _ h => h) (Or.inl ⟨by as_aux_lemma => kernel_rfl, ?_⟩) (by assumption) ?_
  case refine_1 => (intro Wz hSw; go_simp; try with_reducible rfl)
  try simp only [Act.put, List.getElem_toArray, List.getElem_cons_succ, List.getElem_cons_zero, List.setIfInBounds_toArray, List.set_cons_zero, List.set_cons_succ]
  refine wpAnyH_take (i := 5) (v := .bool true) rfl (by as_aux_lemma => kernel_rfl) (by as_aux_lemma => kernel_rfl) (by as_aux_lemma => kernel_rfl) (fun _ _ _ h => h) (Or.inl ⟨by as_aux_lemma => kernel_rfl, ?_⟩) (by assumption) ?_
  case refine_1 => exact fun Wz hSw => exec_eqlE _ _ (by rfl) #[.bool true, .string ⟨#[120, 44, 121]⟩] #[.bool true, .string ⟨#[120, 44, 121]⟩] true (by rfl) (by rfl) (tag_eql Wz true ⟨#[120, 44, 121]⟩) guardT
  try simp only [Act.put, List.getElem_toArray, List.getElem_cons_succ, List.getElem_cons_zero, List.setIfInBounds_toArray, List.set_cons_zero, List.set_cons_succ]
  refine wpAnyH_take (i := 6) (v := .bool true) rfl (by as_aux_lemma => kernel_rfl) (by as_aux_lemma => kernel_rfl) (by as_aux_lemma => kernel_rfl) (fun _ _ _ h => h) (Or.inl ⟨by as_aux_lemma => kernel_rfl, ?_⟩) (by assumption) ?_
  case refine_1 => (intro Wz hSw; go_simp; try with_reducible rfl)
  try simp only [Act.put, List.getElem_toArray, List.getElem_cons_succ, List.getElem_cons_zero, List.setIfInBounds_toArray, List.set_cons_zero, List.set_cons_succ]
  refine wpAnyH_take (i := 7) (v := .bool true) rfl (by as_aux_lemma => kernel_rfl) (by as_aux_lemma => kernel_rfl) (by as_aux_lemma => kernel_rfl) (fun _ _ _ h => h) (Or.inl ⟨by as_aux_lemma => kernel_rfl, ?_⟩) (by assumption) ?_
  case refine_1 => (intro Wz hSw; go_simp; try with_reducible rfl)
  try simp only [Act.put, List.getElem_toArray, List.getElem_cons_succ, List.getElem_cons_zero, List.setIfInBounds_toArray, List.set_cons_zero, List.set_cons_succ]
  refine wpAnyH_take (i := 8) (v := .int .i64 4) rfl (by as_aux_lemma => kernel_rfl) (by as_aux_lemma => kernel_rfl) (by as_aux_lemma => kernel_rfl) (fun _ _ _ h => h) (Or.inl ⟨by as_aux_lemma => kernel_rfl, ?_⟩) (by assumption) ?_
  case refine_1 => (intro Wz hSw; go_simp; try with_reducible rfl)
  try simp only [Act.put, List.getElem_toArray, List.getElem_cons_succ, List.getElem_cons_zero, List.setIfInBounds_toArray, List.set_cons_zero, List.set_cons_succ]
  refine wpAnyH_take (i := 9) (v := .bool true) rfl (by as_aux_lemma => kernel_rfl) (by as_aux_lemma => kernel_rfl) (by as_aux_lemma => kernel_rfl) (fun _ _ _ h => h) (Or.inl ⟨by as_aux_lemma => kernel_rfl, ?_⟩) (by assumption) ?_
  case refine_1 => (intro Wz hSw; go_simp; try with_reducible rfl)
  try simp only [Act.put, List.getElem_toArray, List.getElem_cons_succ, List.getElem_cons_zero, List.setIfInBounds_toArray, List.set_cons_zero, List.set_cons_succ]
  refine wpAnyH_take (i := 10) (v := .bool true) rfl (by as_aux_lemma => kernel_rfl) (by as_aux_lemma => kernel_rfl) (by as_aux_lemma => kernel_rfl) (fun _ _ _ h => h) (Or.inl ⟨by as_aux_lemma => kernel_rfl, ?_⟩) (by assumption) ?_
  case refine_1 => (intro Wz hSw; go_simp; try with_reducible rfl)
  try simp only [Act.put, List.getElem_toArray, List.getElem_cons_succ, List.getElem_cons_zero, List.setIfInBounds_toArray, List.set_cons_zero, List.set_cons_succ]
  refine wpAnyH_take (i := 11) (v := .bool true) rfl (by as_aux_lemma => kernel_rfl) (by as_aux_lemma => kernel_rfl) (by as_aux_lemma => kernel_rfl) (fun _ _ _ h => h) (Or.inl ⟨by as_aux_lemma => kernel_rfl, ?_⟩) (by assumption) ?_
  case refine_1 => (intro Wz hSw; go_simp; try with_reducible rfl)
  try simp only [Act.put, List.getElem_toArray, List.getElem_cons_succ, List.getElem_cons_zero, List.setIfInBounds_toArray, List.set_cons_zero, List.set_cons_succ]
  refine wpAnyH_take (i := 12) (v := .int .i64 4) rfl (by as_aux_lemma => kernel_rfl) (by as_aux_lemma => kernel_rfl) (by as_aux_lemma => kernel_rfl) (fun _ _ _ h => h) (Or.inl ⟨by as_aux_lemma => kernel_rfl, ?_⟩) (by assumption) ?_
  case refine_1 => (intro Wz hSw; go_simp; try with_reducible rfl)
  try simp only [Act.put, List.getElem_toArray, List.getElem_cons_succ, List.getElem_cons_zero, List.setIfInBounds_toArray, List.set_cons_zero, List.set_cons_succ]
  refine wpAnyH_take (i := 13) (v := .bool true) rfl (by as_aux_lemma => kernel_rfl) (by as_aux_lemma => kernel_rfl) (by as_aux_lemma => kernel_rfl) (fun _ _ _ h => h) (Or.inl ⟨by as_aux_lemma => kernel_rfl, ?_⟩) (by assumption) ?_
  case refine_1 => (intro Wz hSw; go_simp; try with_reducible rfl)
  try simp only [Act.put, List.getElem_toArray, List.getElem_cons_succ, List.getElem_cons_zero, List.setIfInBounds_toArray, List.set_cons_zero, List.set_cons_succ]
  refine wpAnyH_take (i := 14) (v := .bool true) rfl (by as_aux_lemma => kernel_rfl) (by as_aux_lemma => kernel_rfl) (by as_aux_lemma => kernel_rfl) (fun _ _ _ h => h) (Or.inl ⟨by as_aux_lemma => kernel_rfl, ?_⟩) (by assumption) ?_
  case refine_1 => (intro Wz hSw; go_simp; try with_reducible rfl)
  try simp only [Act.put, List.getElem_toArray, List.getElem_cons_succ, List.getElem_cons_zero, List.setIfInBounds_toArray, List.set_cons_zero, List.set_cons_succ]
  refine wpAnyH_take (i := 15) (v := .bool true) rfl (by as_aux_lemma => kernel_rfl) (by as_aux_lemma => kernel_rfl) (by as_aux_lemma => kernel_rfl) (fun _ _ _ h => h) (Or.inl ⟨by as_aux_lemma => kernel_rfl, ?_⟩) (by assumption) ?_
  case refine_1 => (intro Wz hSw; go_simp; try with_reducible rfl)
  try simp only [Act.put, List.getElem_toArray, List.getElem_cons_succ, List.getElem_cons_zero, List.setIfInBounds_toArray, List.set_cons_zero, List.set_cons_succ]
  refine wpAnyH_take (i := 16) (v := .int .i64 4) rfl (by as_aux_lemma => kernel_rfl) (by as_aux_lemma => kernel_rfl) (by as_aux_lemma => kernel_rfl) (fun _ _ _ h => h) (Or.inl ⟨by as_aux_lemma => kernel_rfl, ?_⟩) (by assumption) ?_
  case refine_1 => (intro Wz hSw; go_simp; try with_reducible rfl)
  try simp only [Act.put, List.getElem_toArray, List.getElem_cons_succ, List.getElem_cons_zero, List.setIfInBounds_toArray, List.set_cons_zero, List.set_cons_succ]
  refine wpAnyH_take (i := 17) (v := .bool true) rfl (by as_aux_lemma => kernel_rfl) (by as_aux_lemma => kernel_rfl) (by as_aux_lemma => kernel_rfl) (fun _ _ _ h => h) (Or.inl ⟨by as_aux_lemma => kernel_rfl, ?_⟩) (by assumption) ?_
  case refine_1 => (intro Wz hSw; go_simp; try with_reducible rfl)
  try simp only [Act.put, List.getElem_toArray, List.getElem_cons_succ, List.getElem_cons_zero, List.setIfInBounds_toArray, List.set_cons_zero, List.set_cons_succ]
  refine wpAnyH_take (i := 18) (v := .bool true) rfl (by as_aux_lemma => kernel_rfl) (by as_aux_lemma => kernel_rfl) (by as_aux_lemma => kernel_rfl) (fun _ _ _ h => h) (Or.inl ⟨by as_aux_lemma => kernel_rfl, ?_⟩) (by assumption) ?_
  case refine_1 => (intro Wz hSw; go_simp; try with_reducible rfl)
  try simp only [Act.put, List.getElem_toArray, List.getElem_cons_succ, List.getElem_cons_zero, List.setIfInBounds_toArray, List.set_cons_zero, List.set_cons_succ]
  refine wpAnyH_take (i := 19) (v := .bool true) rfl (by as_aux_lemma => kernel_rfl) (by as_aux_lemma => kernel_rfl) (by as_aux_lemma => kernel_rfl) (fun _ _ _ h => h) (Or.inl ⟨by as_aux_lemma => kernel_rfl, ?_⟩) (by assumption) ?_
  case refine_1 => (intro Wz hSw; go_simp; try with_reducible rfl)
  try simp only [Act.put, List.getElem_toArray, List.getElem_cons_succ, List.getElem_cons_zero, List.setIfInBounds_toArray, List.set_cons_zero, List.set_cons_succ]
  refine wpAnyH_take (i := 20) (v := .int .i64 0) rfl (by as_aux_lemma => kernel_rfl) (by as_aux_lemma => kernel_rfl) (by as_aux_lemma => kernel_rfl) (fun _ _ _ h => h) (Or.inl ⟨by as_aux_lemma => kernel_rfl, ?_⟩) (by assumption) ?_
  case refine_1 => (intro Wz hSw; go_simp; try with_reducible rfl)
  try simp only [Act.put, List.getElem_toArray, List.getElem_cons_succ, List.getElem_cons_zero, List.setIfInBounds_toArray, List.set_cons_zero, List.set_cons_succ]
  refine wpAnyH_take (i := 21) (v := .bool true) rfl (by as_aux_lemma => kernel_rfl) (by as_aux_lemma => kernel_rfl) (by as_aux_lemma => kernel_rfl) (fun _ _ _ h => h) (Or.inl ⟨by as_aux_lemma => kernel_rfl, ?_⟩) (by assumption) ?_
  case refine_1 => (intro Wz hSw; go_simp; try with_reducible rfl)
  try simp only [Act.put, List.getElem_toArray, List.getElem_cons_succ, List.getElem_cons_zero, List.setIfInBounds_toArray, List.set_cons_zero, List.set_cons_succ]
  refine wpAnyH_take (i := 22) (v := .bool true) rfl (by as_aux_lemma => kernel_rfl) (by as_aux_lemma => kernel_rfl) (by as_aux_lemma => kernel_rfl) (fun _ _ _ h => h) (Or.inl ⟨by as_aux_lemma => kernel_rfl, ?_⟩) (by assumption) ?_
  case refine_1 => (intro Wz hSw; go_simp; try with_reducible rfl)
  try simp only [Act.put, List.getElem_toArray, List.getElem_cons_succ, List.getElem_cons_zero, List.setIfInBounds_toArray, List.set_cons_zero, List.set_cons_succ]
  refine wpAnyH_take (i := 23) (v := .bool true) rfl (by as_aux_lemma => kernel_rfl) (by as_aux_lemma => kernel_rfl) (by as_aux_lemma => kernel_rfl) (fun _ _ _ h => h) (Or.inl ⟨by as_aux_lemma => kernel_rfl, ?_⟩) (by assumption) ?_
  case refine_1 => (intro Wz hSw; go_simp; try with_reducible rfl)
  try simp only [Act.put, List.getElem_toArray, List.getElem_cons_succ, List.getElem_cons_zero, List.setIfInBounds_toArray, List.set_cons_zero, List.set_cons_succ]
  refine wpAnyH_take (i := 24) (v := .string ⟨#[87, 47, 34, 34]⟩) rfl (by as_aux_lemma => kernel_rfl) (by as_aux_lemma => kernel_rfl) (by as_aux_lemma => kernel_rfl) (fun _ _ _ h => h) (Or.inl ⟨by as_aux_lemma => kernel_rfl, ?_⟩) (by assumption) ?_
  case refine_1 => (intro Wz hSw; go_simp; try with_reducible rfl)
  try simp only [Act.put, List.getElem_toArray, List.getElem_cons_succ, List.getElem_cons_zero, List.setIfInBounds_toArray, List.set_cons_zero, List.set_cons_succ]
  refine wpAnyH_take (i := 25) (v := .bool true) rfl (by as_aux_lemma => kernel_rfl) (by as_aux_lemma => kernel_rfl) (by as_aux_lemma => kernel_rfl) (fun _ _ _ h => h) (Or.inl ⟨by as_aux_lemma => kernel_rfl, ?_⟩) (by assumption) ?_
  case refine_1 => (intro Wz hSw; go_simp; try with_reducible rfl)
  try simp only [Act.put, List.getElem_toArray, List.getElem_cons_succ, List.getElem_cons_zero, List.setIfInBounds_toArray, List.set_cons_zero, List.set_cons_succ]
  refine wpAnyH_take (i := 26) (v := .bool true) rfl (by as_aux_lemma => kernel_rfl) (by as_aux_lemma => kernel_rfl) (by as_aux_lemma => kernel_rfl) (fun _ _ _ h => h) (Or.inl ⟨by as_aux_lemma => kernel_rfl, ?_⟩) (by assumption) ?_
  case refine_1 => (intro Wz hSw; go_simp; try with_reducible rfl)
  try simp only [Act.put, List.getElem_toArray, List.getElem_cons_succ, List.getElem_cons_zero, List.setIfInBounds_toArray, List.set_cons_zero, List.set_cons_succ]
  refine wpAnyH_take (i := 27) (v := .bool true) rfl (by as_aux_lemma => kernel_rfl) (by as_aux_lemma => kernel_rfl) (by as_aux_lemma => kernel_rfl) (fun _ _ _ h => h) (Or.inl ⟨by as_aux_lemma => kernel_rfl, ?_⟩) (by assumption) ?_
  case refine_1 => (intro Wz hSw; go_simp; try with_reducible rfl)
  try simp only [Act.put, List.getElem_toArray, List.getElem_cons_succ, List.getElem_cons_zero, List.setIfInBounds_toArray, List.set_cons_zero, List.set_cons_succ]
  refine wpAnyH_take (i := 28) (v := .int .i64 0) rfl (by as_aux_lemma => kernel_rfl) (by as_aux_lemma => kernel_rfl) (by as_aux_lemma => kernel_rfl) (fun _ _ _ h => h) (Or.inl ⟨by as_aux_lemma => kernel_rfl, ?_⟩) (by assumption) ?_
  case refine_1 => (intro Wz hSw; go_simp; try with_reducible rfl)
  try simp only [Act.put, List.getElem_toArray, List.getElem_cons_succ, List.getElem_cons_zero, List.setIfInBounds_toArray, List.set_cons_zero, List.set_cons_succ]
  refine wpAnyH_take (i := 29) (v := .bool true) rfl (by as_aux_lemma => kernel_rfl) (by as_aux_lemma => kernel_rfl) (by as_aux_lemma => kernel_rfl) (fun _ _ _ h => h) (Or.inl ⟨by as_aux_lemma => kernel_rfl, ?_⟩) (by assumption) ?_
  case refine_1 => (intro Wz hSw; go_simp; try with_reducible rfl)
  try simp only [Act.put, List.getElem_toArray, List.getElem_cons_succ, List.getElem_cons_zero, List.setIfInBounds_toArray, List.set_cons_zero, List.set_cons_succ]
  refine wpAnyH_take (i := 30) (v := .bool true) rfl (by as_aux_lemma => kernel_rfl) (by as_aux_lemma => kernel_rfl) (by as_aux_lemma => kernel_rfl) (fun _ _ _ h => h) (Or.inl ⟨by as_aux_lemma => kernel_rfl, ?_⟩) (by assumption) ?_
  case refine_1 => (intro Wz hSw; go_simp; try with_reducible rfl)
  try simp only [Act.put, List.getElem_toArray, List.getElem_cons_succ, List.getElem_cons_zero, List.setIfInBounds_toArray, List.set_cons_zero, List.set_cons_succ]
  refine wpAnyH_take (i := 31) (v := .bool true) rfl (by as_aux_lemma => kernel_rfl) (by as_aux_lemma => kernel_rfl) (by as_aux_lemma => kernel_rfl) (fun _ _ _ h => h) (Or.inl ⟨by as_aux_lemma => kernel_rfl, ?_⟩) (by assumption) ?_
  case refine_1 => (intro Wz hSw; go_simp; try with_reducible rfl)
  try simp only [Act.put, List.getElem_toArray, List.getElem_cons_succ, List.getElem_cons_zero, List.setIfInBounds_toArray, List.set_cons_zero, List.set_cons_succ]
  refine wpAnyH_take (i := 32) (v := .bool false) rfl (by as_aux_lemma => kernel_rfl) (by as_aux_lemma => kernel_rfl) (by as_aux_lemma => kernel_rfl) (fun _ _ _ h => h) (Or.inl ⟨by as_aux_lemma => kernel_rfl, ?_⟩) (by assumption) ?_
  case refine_1 => (intro Wz hSw; go_simp; try with_reducible rfl)
  try simp only [Act.put, List.getElem_toArray, List.getElem_cons_succ, List.getElem_cons_zero, List.setIfInBounds_toArray, List.set_cons_zero, List.set_cons_succ]
  refine wpAnyH_take (i := 33) (v := .bool true) rfl (by as_aux_lemma => kernel_rfl) (by as_aux_lemma => kernel_rfl) (by as_aux_lemma => kernel_rfl) (fun _ _ _ h => h) (Or.inl ⟨by as_aux_lemma => kernel_rfl, ?_⟩) (by assumption) ?_
  case refine_1 => (intro Wz hSw; go_simp; try with_reducible rfl)
  try simp only [Act.put, List.getElem_toArray, List.getElem_cons_succ, List.getElem_cons_zero, List.setIfInBounds_toArray, List.set_cons_zero, List.set_cons_succ]
  refine wpAnyH_take (i := 34) (v := .bool true) rfl (by as_aux_lemma => kernel_rfl) (by as_aux_lemma => kernel_rfl) (by as_aux_lemma => kernel_rfl) (fun _ _ _ h => h) (Or.inl ⟨by as_aux_lemma => kernel_rfl, ?_⟩) (by assumption) ?_
  case refine_1 => (intro Wz hSw; go_simp; try with_reducible rfl)
  try simp only [Act.put, List.getElem_toArray, List.getElem_cons_succ, List.getElem_cons_zero, List.setIfInBounds_toArray, List.set_cons_zero, List.set_cons_succ]
  refine wpAnyH_take (i := 35) (v := .bool true) rfl (by as_aux_lemma => kernel_rfl) (by as_aux_lemma => kernel_rfl) (by as_aux_lemma => kernel_rfl) (fun _ _ _ h => h) (Or.inl ⟨by as_aux_lemma => kernel_rfl, ?_⟩) (by assumption) ?_
  case refine_1 => (intro Wz hSw; go_simp; try with_reducible rfl)
  try simp only [Act.put, List.getElem_toArray, List.getElem_cons_succ, List.getElem_cons_zero, List.setIfInBounds_toArray, List.set_cons_zero, List.set_cons_succ]
  refine wpAnyH_take (i := 36) (v := .slice (some ⟨g11, 0, none⟩) 2 c11) rfl (by as_aux_lemma => kernel_rfl) (by as_aux_lemma => kernel_rfl) (by as_aux_lemma => kernel_rfl) (fun _ _ _ h => h) (Or.inl ⟨by as_aux_lemma => kernel_rfl, ?_⟩) (by assumption) ?_
  case refine_1 => (intro Wz hSw; go_simp; try with_reducible rfl)
  try simp only [Act.put, List.getElem_toArray, List.getElem_cons_succ, List.getElem_cons_zero, List.setIfInBounds_toArray, List.set_cons_zero, List.set_cons_succ]
  refine wpAnyH_take (i := 37) (v := .int .i64 2) rfl (by as_aux_lemma => kernel_rfl) (by as_aux_lemma => kernel_rfl) (by as_aux_lemma => kernel_rfl) (fun _ _ _ h => h) (Or.inl ⟨by as_aux_lemma => kernel_rfl, ?_⟩) (by assumption) ?_
  case refine_1 => (intro Wz hSw; go_simp; try with_reducible rfl)
  try simp only [Act.put, List.getElem_toArray, List.getElem_cons_succ, List.getElem_cons_zero, List.setIfInBounds_toArray, List.set_cons_zero, List.set_cons_succ]
  refine wpAnyH_take (i := 38) (v := .bool true) rfl (by as_aux_lemma => kernel_rfl) (by as_aux_lemma => kernel_rfl) (by as_aux_lemma => kernel_rfl) (fun _ _ _ h => h) (Or.inl ⟨by as_aux_lemma => kernel_rfl, ?_⟩) (by assumption) ?_
  case refine_1 => (intro Wz hSw; go_simp; try with_reducible rfl)
  try simp only [Act.put, List.getElem_toArray, List.getElem_cons_succ, List.getElem_cons_zero, List.setIfInBounds_toArray, List.set_cons_zero, List.set_cons_succ]
  refine wpAnyH_take (i := 39) (v := .bool true) rfl (by as_aux_lemma => kernel_rfl) (by as_aux_lemma => kernel_rfl) (by as_aux_lemma => kernel_rfl) (fun _ _ _ h => h) (Or.inl ⟨by as_aux_lemma => kernel_rfl, ?_⟩) (by assumption) ?_
  case refine_1 => (intro Wz hSw; go_simp; try with_reducible rfl)
  try simp only [Act.put, List.getElem_toArray, List.getElem_cons_succ, List.getElem_cons_zero, List.setIfInBounds_toArray, List.set_cons_zero, List.set_cons_succ]
  refine wpAnyH_take (i := 40) (v := .bool true) rfl (by as_aux_lemma => kernel_rfl) (by as_aux_lemma => kernel_rfl) (by as_aux_lemma => kernel_rfl) (fun _ _ _ h => h) (Or.inl ⟨by as_aux_lemma => kernel_rfl, ?_⟩) (by assumption) ?_
  case refine_1 => (intro Wz hSw; go_simp; try with_reducible rfl)
  try simp only [Act.put, List.getElem_toArray, List.getElem_cons_succ, List.getElem_cons_zero, List.setIfInBounds_toArray, List.set_cons_zero, List.set_cons_succ]
  refine wpAnyH_take (i := 41) (v := .slice (some ⟨g11, 0, none⟩) 2 c11) rfl (by as_aux_lemma => kernel_rfl) (by as_aux_lemma => kernel_rfl) (by as_aux_lemma => kernel_rfl) (fun _ _ _ h => h) (Or.inl ⟨by as_aux_lemma => kernel_rfl, ?_⟩) (by assumption) ?_
  case refine_1 => (intro Wz hSw; go_simp; try with_reducible rfl)
  try simp only [Act.put, List.getElem_toArray, List.getElem_cons_succ, List.getElem_cons_zero, List.setIfInBounds_toArray, List.set_cons_zero, List.set_cons_succ]
  refine wpAnyH_take (i := 42) (v := .pointer (some ⟨g11, 2, none⟩)) rfl (by as_aux_lemma => kernel_rfl) (by as_aux_lemma => kernel_rfl) (by as_aux_lemma => kernel_rfl) (fun _ _ _ h => h) (Or.inl ⟨by as_aux_lemma => kernel_rfl, ?_⟩) (by assumption) ?_
  case refine_1 => (intro Wz hSw; go_simp; try with_reducible rfl)
  try simp only [Act.put, List.getElem_toArray, List.getElem_cons_succ, List.getElem_cons_zero, List.setIfInBounds_toArray, List.set_cons_zero, List.set_cons_succ]
  refine wpAnyH_take (i := 43) (v := .pointer (some ⟨g11, 2, none⟩)) rfl (by as_aux_lemma => kernel_rfl) (by as_aux_lemma => kernel_rfl) (by as_aux_lemma => kernel_rfl) (fun _ _ _ h => h) (Or.inl ⟨by as_aux_lemma => kernel_rfl, ?_⟩) (by assumption) ?_
  case refine_1 => (intro Wz hSw; go_simp; try with_reducible rfl)
  try simp only [Act.put, List.getElem_toArray, List.getElem_cons_succ, List.getElem_cons_zero, List.setIfInBounds_toArray, List.set_cons_zero, List.set_cons_succ]
  refine wpAnyH_take (i := 44) (v := .bool true) rfl (by as_aux_lemma => kernel_rfl) (by as_aux_lemma => kernel_rfl) (by as_aux_lemma => kernel_rfl) (fun _ _ _ h => h) (Or.inl ⟨by as_aux_lemma => kernel_rfl, ?_⟩) (by assumption) ?_
  case refine_1 => (intro Wz hSw; have u : Wz.cell? ⟨g11, 2, none⟩ = some (.bool true) := hSw.t11.c2; go_simp; try with_reducible rfl)
  try simp only [Act.put, List.getElem_toArray, List.getElem_cons_succ, List.getElem_cons_zero, List.setIfInBounds_toArray, List.set_cons_zero, List.set_cons_succ]
  refine wpAnyH_take (i := 45) (v := .bool true) rfl (by as_aux_lemma => kernel_rfl) (by as_aux_lemma => kernel_rfl) (by as_aux_lemma => kernel_rfl) (fun _ _ _ h => h) (Or.inl ⟨by as_aux_lemma => kernel_rfl, ?_⟩) (by assumption) ?_
  case refine_1 => (intro Wz hSw; go_simp; try with_reducible rfl)
  try simp only [Act.put, List.getElem_toArray, List.getElem_cons_succ, List.getElem_cons_zero, List.setIfInBounds_toArray, List.set_cons_zero, List.set_cons_succ]
  refine wpAnyH_take (i := 46) (v := .bool true) rfl (by as_aux_lemma => kernel_rfl) (by as_aux_lemma => kernel_rfl) (by as_aux_lemma => kernel_rfl) (fun _ _ _ h => h) (Or.inl ⟨by as_aux_lemma => kernel_rfl, ?_⟩) (by assumption) ?_
  case refine_1 => (intro Wz hSw; go_simp; try with_reducible rfl)
  try simp only [Act.put, List.getElem_toArray, List.getElem_cons_succ, List.getElem_cons_zero, List.setIfInBounds_toArray, List.set_cons_zero, List.set_cons_succ]
  refine wpAnyH_take (i := 47) (v := .int .i64 0) rfl (by as_aux_lemma => kernel_rfl) (by as_aux_lemma => kernel_rfl) (by as_aux_lemma => kernel_rfl) (fun _ _ _ h => h) (Or.inl ⟨by as_aux_lemma => kernel_rfl, ?_⟩) (by assumption) ?_
  case refine_1 => (intro Wz hSw; go_simp; try with_reducible rfl)
  try simp only [Act.put, List.getElem_toArray, List.getElem_cons_succ, List.getElem_cons_zero, List.setIfInBounds_toArray, List.set_cons_zero, List.set_cons_succ]
  refine wpAnyH_take (i := 48) (v := .bool true) rfl (by as_aux_lemma => kernel_rfl) (by as_aux_lemma => kernel_rfl) (by as_aux_lemma => kernel_rfl) (fun _ _ _ h => h) (Or.inl ⟨by as_aux_lemma => kernel_rfl, ?_⟩) (by assumption) ?_
  case refine_1 => (intro Wz hSw; go_simp; try with_reducible rfl)
  try simp only [Act.put, List.getElem_toArray, List.getElem_cons_succ, List.getElem_cons_zero, List.setIfInBounds_toArray, List.set_cons_zero, List.set_cons_succ]
  refine wpAnyH_take (i := 49) (v := .bool true) rfl (by as_aux_lemma => kernel_rfl) (by as_aux_lemma => kernel_rfl) (by as_aux_lemma => kernel_rfl) (fun _ _ _ h => h) (Or.inl ⟨by as_aux_lemma => kernel_rfl, ?_⟩) (by assumption) ?_
  case refine_1 => (intro Wz hSw; go_simp; try with_reducible rfl)
  try simp only [Act.put, List.getElem_toArray, List.getElem_cons_succ, List.getElem_cons_zero, List.setIfInBounds_toArray, List.set_cons_zero, List.set_cons_succ]
  refine wpAnyH_take (i := 50) (v := .bool true) rfl (by as_aux_lemma => kernel_rfl) (by as_aux_lemma => kernel_rfl) (by as_aux_lemma => kernel_rfl) (fun _ _ _ h => h) (Or.inl ⟨by as_aux_lemma => kernel_rfl, ?_⟩) (by assumption) ?_
  case refine_1 => (intro Wz hSw; go_simp; try with_reducible rfl)
  try simp only [Act.put, List.getElem_toArray, List.getElem_cons_succ, List.getElem_cons_zero, List.setIfInBounds_toArray, List.set_cons_zero, List.set_cons_succ]
  refine wpAnyH_take (i := 51) (v := .bool true) rfl (by as_aux_lemma => kernel_rfl) (by as_aux_lemma => kernel_rfl) (by as_aux_lemma => kernel_rfl) (fun _ _ _ h => h) (Or.inl ⟨by as_aux_lemma => kernel_rfl, ?_⟩) (by assumption) ?_
  case refine_1 => (intro Wz hSw; go_simp; try with_reducible rfl)
  try simp only [Act.put, List.getElem_toArray, List.getElem_cons_succ, List.getElem_cons_zero, List.setIfInBounds_toArray, List.set_cons_zero, List.set_cons_succ]
  refine wpAnyH_take (i := 52) (v := .bool true) rfl (by as_aux_lemma => kernel_rfl) (by as_aux_lemma => kernel_rfl) (by as_aux_lemma => kernel_rfl) (fun _ _ _ h => h) (Or.inl ⟨by as_aux_lemma => kernel_rfl, ?_⟩) (by assumption) ?_
  case refine_1 => (intro Wz hSw; go_simp; try with_reducible rfl)
  try simp only [Act.put, List.getElem_toArray, List.getElem_cons_succ, List.getElem_cons_zero, List.setIfInBounds_toArray, List.set_cons_zero, List.set_cons_succ]
  refine wpAnyH_take (i := 53) (v := .bool true) rfl (by as_aux_lemma => kernel_rfl) (by as_aux_lemma => kernel_rfl) (by as_aux_lemma => kernel_rfl) (fun _ _ _ h => h) (Or.inl ⟨by as_aux_lemma => kernel_rfl, ?_⟩) (by assumption) ?_
  case refine_1 => (intro Wz hSw; go_simp; try with_reducible rfl)
  try simp only [Act.put, List.getElem_toArray, List.getElem_cons_succ, List.getElem_cons_zero, List.setIfInBounds_toArray, List.set_cons_zero, List.set_cons_succ]
  refine wpAnyH_take (i := 54) (v := .int .i64 4) rfl (by as_aux_lemma => kernel_rfl) (by as_aux_lemma => kernel_rfl) (by as_aux_lemma => kernel_rfl) (fun _ _ _ h => h) (Or.inl ⟨by as_aux_lemma => kernel_rfl, ?_⟩) (by assumption) ?_
  case refine_1 => (intro Wz hSw; go_simp; try with_reducible rfl)
  try simp only [Act.put, List.getElem_toArray, List.getElem_cons_succ, List.getElem_cons_zero, List.setIfInBounds_toArray, List.set_cons_zero, List.set_cons_succ]
  refine wpAnyH_take (i := 55) (v := .bool true) rfl (by as_aux_lemma => kernel_rfl) (by as_aux_lemma => kernel_rfl) (by as_aux_lemma => kernel_rfl) (fun _ _ _ h => h) (Or.inl ⟨by as_aux_lemma => kernel_rfl, ?_⟩) (by assumption) ?_
  case refine_1 => (intro Wz hSw; go_simp; try with_reducible rfl)
  try simp only [Act.put, List.getElem_toArray, List.getElem_cons_succ, List.getElem_cons_zero, List.setIfInBounds_toArray, List.set_cons_zero, List.set_cons_succ]
  refine wpAnyH_take (i := 56) (v := .bool true) rfl (by as_aux_lemma => kernel_rfl) (by as_aux_lemma => kernel_rfl) (by as_aux_lemma => kernel_rfl) (fun _ _ _ h => h) (Or.inl ⟨by as_aux_lemma => kernel_rfl, ?_⟩) (by assumption) ?_
  case refine_1 => (intro Wz hSw; go_simp; try with_reducible rfl)
  try simp only [Act.put, List.getElem_toArray, List.getElem_cons_succ, List.getElem_cons_zero, List.setIfInBounds_toArray, List.set_cons_zero, List.set_cons_succ]
  refine wpAnyH_take (i := 57) (v := .bool true) rfl (by as_aux_lemma => kernel_rfl) (by as_aux_lemma => kernel_rfl) (by as_aux_lemma => kernel_rfl) (fun _ _ _ h => h) (Or.inl ⟨by as_aux_lemma => kernel_rfl, ?_⟩) (by assumption) ?_
  case refine_1 => (intro Wz hSw; go_simp; try with_reducible rfl)
  try simp only [Act.put, List.getElem_toArray, List.getElem_cons_succ, List.getElem_cons_zero, List.setIfInBounds_toArray, List.set_cons_zero, List.set_cons_succ]
  refine wpAnyH_take (i := 58) (v := .int .i64 4) rfl (by as_aux_lemma => kernel_rfl) (by as_aux_lemma => kernel_rfl) (by as_aux_lemma => kernel_rfl) (fun _ _ _ h => h) (Or.inl ⟨by as_aux_lemma => kernel_rfl, ?_⟩) (by assumption) ?_
  case refine_1 => (intro Wz hSw; go_simp; try with_reducible rfl)
  try simp only [Act.put, List.getElem_toArray, List.getElem_cons_succ, List.getElem_cons_zero, List.setIfInBounds_toArray, List.set_cons_zero, List.set_cons_succ]
  refine wpAnyH_take (i := 59) (v := .bool true) rfl (by as_aux_lemma => kernel_rfl) (by as_aux_lemma => kernel_rfl) (by as_aux_lemma => kernel_rfl) (fun _ _ _ h => h) (Or.inl ⟨by as_aux_lemma => kernel_rfl, ?_⟩) (by assumption) ?_
  case refine_1 => (intro Wz hSw; go_simp; try with_reducible rfl)
  try simp only [Act.put, List.getElem_toArray, List.getElem_cons_succ, List.getElem_cons_zero, List.setIfInBounds_toArray, List.set_cons_zero, List.set_cons_succ]
  refine wpAnyH_take (i := 60) (v := .bool true) rfl (by as_aux_lemma => kernel_rfl) (by as_aux_lemma => kernel_rfl) (by as_aux_lemma => kernel_rfl) (fun _ _ _ h => h) (Or.inl ⟨by as_aux_lemma => kernel_rfl, ?_⟩) (by assumption) ?_
  case refine_1 => (intro Wz hSw; go_simp; try with_reducible rfl)
  try simp only [Act.put, List.getElem_toArray, List.getElem_cons_succ, List.getElem_cons_zero, List.setIfInBounds_toArray, List.set_cons_zero, List.set_cons_succ]
  refine wpAnyH_take (i := 61) (v := .bool true) rfl (by as_aux_lemma => kernel_rfl) (by as_aux_lemma => kernel_rfl) (by as_aux_lemma => kernel_rfl) (fun _ _ _ h => h) (Or.inl ⟨by as_aux_lemma => kernel_rfl, ?_⟩) (by assumption) ?_
  case refine_1 => (intro Wz hSw; go_simp; try with_reducible rfl)
  try simp only [Act.put, List.getElem_toArray, List.getElem_cons_succ, List.getElem_cons_zero, List.setIfInBounds_toArray, List.set_cons_zero, List.set_cons_succ]
  refine wpAnyH_take (i := 62) (v := .pointer (some ⟨g23, 2, none⟩)) rfl (by as_aux_lemma => kernel_rfl) (by as_aux_lemma => kernel_rfl) (by as_aux_lemma => kernel_rfl) (fun _ _ _ h => h) (Or.inl ⟨by as_aux_lemma => kernel_rfl, ?_⟩) (by assumption) ?_
  case refine_1 => (intro Wz hSw; go_simp; try with_reducible rfl)
  try simp only [Act.put, List.getElem_toArray, List.getElem_cons_succ, List.getElem_cons_zero, List.setIfInBounds_toArray, List.set_cons_zero, List.set_cons_succ]
  refine wpAnyH_take (i := 63) (v := .bool true) rfl (by as_aux_lemma => kernel_rfl) (by as_aux_lemma => kernel_rfl) (by as_aux_lemma => kernel_rfl) (fun _ _ _ h => h) (Or.inl ⟨by as_aux_lemma => kernel_rfl, ?_⟩) (by assumption) ?_
  case refine_1 => (intro Wz hSw; have u : Wz.cell? ⟨g23, 2, none⟩ = some (.bool true) := hSw.n23.cell 2 _ rfl; go_simp; try with_reducible rfl)
  try simp only [Act.put, List.getElem_toArray, List.getElem_cons_succ, List.getElem_cons_zero, List.setIfInBounds_toArray, List.set_cons_zero, List.set_cons_succ]
  refine wpAnyH_take (i := 64) (v := .bool true) rfl (by as_aux_lemma => kernel_rfl) (by as_aux_lemma => kernel_rfl) (by as_aux_lemma => kernel_rfl) (fun _ _ _ h => h) (Or.inl ⟨by as_aux_lemma => kernel_rfl, ?_⟩) (by assumption) ?_
  case refine_1 => (intro Wz hSw; go_simp; try with_reducible rfl)
  try simp only [Act.put, List.getElem_toArray, List.getElem_cons_succ, List.getElem_cons_zero, List.setIfInBounds_toArray, List.set_cons_zero, List.set_cons_succ]
  refine wpAnyH_take (i := 65) (v := .bool true) rfl (by as_aux_lemma => kernel_rfl) (by as_aux_lemma => kernel_rfl) (by as_aux_lemma => kernel_rfl) (fun _ _ _ h => h) (Or.inl ⟨by as_aux_lemma => kernel_rfl, ?_⟩) (by assumption) ?_
  case refine_1 => (intro Wz hSw; go_simp; try with_reducible rfl)
  try simp only [Act.put, List.getElem_toArray, List.getElem_cons_succ, List.getElem_cons_zero, List.setIfInBounds_toArray, List.set_cons_zero, List.set_cons_succ]
  refine wpAnyH_take (i := 66) (v := .pointer (some ⟨g23, 4, none⟩)) rfl (by as_aux_lemma => kernel_rfl) (by as_aux_lemma => kernel_rfl) (by as_aux_lemma => kernel_rfl) (fun _ _ _ h => h) (Or.inl ⟨by as_aux_lemma => kernel_rfl, ?_⟩) (by assumption) ?_
  case refine_1 => (intro Wz hSw; go_simp; try with_reducible rfl)
  try simp only [Act.put, List.getElem_toArray, List.getElem_cons_succ, List.getElem_cons_zero, List.setIfInBounds_toArray, List.set_cons_zero, List.set_cons_succ]
  refine wpAnyH_take (i := 67) (v := .bool true) rfl (by as_aux_lemma => kernel_rfl) (by as_aux_lemma => kernel_rfl) (by as_aux_lemma => kernel_rfl) (fun _ _ _ h => h) (Or.inl ⟨by as_aux_lemma => kernel_rfl, ?_⟩) (by assumption) ?_
  case refine_1 => (intro Wz hSw; have u : Wz.cell? ⟨g23, 4, none⟩ = some (.bool true) := hSw.n23.cell 4 _ rfl; go_simp; try with_reducible rfl)
  try simp only [Act.put, List.getElem_toArray, List.getElem_cons_succ, List.getElem_cons_zero, List.setIfInBounds_toArray, List.set_cons_zero, List.set_cons_succ]
  refine wpAnyH_take (i := 68) (v := .bool true) rfl (by as_aux_lemma => kernel_rfl) (by as_aux_lemma => kernel_rfl) (by as_aux_lemma => kernel_rfl) (fun _ _ _ h => h) (Or.inl ⟨by as_aux_lemma => kernel_rfl, ?_⟩) (by assumption) ?_
  case refine_1 => (intro Wz hSw; go_simp; try with_reducible rfl)
  try simp only [Act.put, List.getElem_toArray, List.getElem_cons_succ, List.getElem_cons_zero, List.setIfInBounds_toArray, List.set_cons_zero, List.set_cons_succ]
  refine wpAnyH_take (i := 69) (v := .bool true) rfl (by as_aux_lemma => kernel_rfl) (by as_aux_lemma => kernel_rfl) (by as_aux_lemma => kernel_rfl) (fun _ _ _ h => h) (Or.inl ⟨by as_aux_lemma => kernel_rfl, ?_⟩) (by assumption) ?_
  case refine_1 => (intro Wz hSw; go_simp; try with_reducible rfl)
  try simp only [Act.put, List.getElem_toArray, List.getElem_cons_succ, List.getElem_cons_zero, List.setIfInBounds_toArray, List.set_cons_zero, List.set_cons_succ]
  refine wpAnyH_take (i := 70) (v := .pointer (some ⟨g23, 3, none⟩)) rfl (by as_aux_lemma => kernel_rfl) (by as_aux_lemma => kernel_rfl) (by as_aux_lemma => kernel_rfl) (fun _ _ _ h => h) (Or.inl ⟨by as_aux_lemma => kernel_rfl, ?_⟩) (by assumption) ?_
  case refine_1 => (intro Wz hSw; go_simp; try with_reducible rfl)
  try simp only [Act.put, List.getElem_toArray, List.getElem_cons_succ, List.getElem_cons_zero, List.setIfInBounds_toArray, List.set_cons_zero, List.set_cons_succ]
  refine wpAnyH_take (i := 71) (v := .int .i64 784111777) rfl (by as_aux_lemma => kernel_rfl) (by as_aux_lemma => kernel_rfl) (by as_aux_lemma => kernel_rfl) (fun _ _ _ h => h) (Or.inl ⟨by as_aux_lemma => kernel_rfl, ?_⟩) (by assumption) ?_
  case refine_1 => (intro Wz hSw; have u : Wz.cell? ⟨g23, 3, none⟩ = some (.int .i64 784111777) := hSw.n23.cell 3 _ rfl; go_simp; try with_reducible rfl)
  try simp only [Act.put, List.getElem_toArray, List.getElem_cons_succ, List.getElem_cons_zero, List.setIfInBounds_toArray, List.set_cons_zero, List.set_cons_succ]
  refine wpAnyH_take (i := 72) (v := .bool true) rfl (by as_aux_lemma => kernel_rfl) (by as_aux_lemma => kernel_rfl) (by as_aux_lemma => kernel_rfl) (fun _ _ _ h => h) (Or.inl ⟨by as_aux_lemma => kernel_rfl, ?_⟩) (by assumption) ?_
  case refine_1 => (intro Wz hSw; go_simp; try with_reducible rfl)
  try simp only [Act.put, List.getElem_toArray, List.getElem_cons_succ, List.getElem_cons_zero, List.setIfInBounds_toArray, List.set_cons_zero, List.set_cons_succ]
  refine wpAnyH_take (i := 73) (v := .bool true) rfl (by as_aux_lemma => kernel_rfl) (by as_aux_lemma => kernel_rfl) (by as_aux_lemma => kernel_rfl) (fun _ _ _ h => h) (Or.inl ⟨by as_aux_lemma => kernel_rfl, ?_⟩) (by assumption) ?_
  case refine_1 => (intro Wz hSw; go_simp; try with_reducible rfl)
  try simp only [Act.put, List.getElem_toArray, List.getElem_cons_succ, List.getElem_cons_zero, List.setIfInBounds_toArray, List.set_cons_zero, List.set_cons_succ]
  refine wpAnyH_take (i := 74) (v := .bool true) rfl (by as_aux_lemma => kernel_rfl) (by as_aux_lemma => kernel_rfl) (by as_aux_lemma => kernel_rfl) (fun _ _ _ h => h) (Or.inl ⟨by as_aux_lemma => kernel_rfl, ?_⟩) (by assumption) ?_
  case refine_1 => (intro Wz hSw; go_simp; try with_reducible rfl)
  try simp only [Act.put, List.getElem_toArray, List.getElem_cons_succ, List.getElem_cons_zero, List.setIfInBounds_toArray, List.set_cons_zero, List.set_cons_succ]
  refine wpAnyH_take (i := 75) (v := .pointer (some ⟨g24, 2, none⟩)) rfl (by as_aux_lemma => kernel_rfl) (by as_aux_lemma => kernel_rfl) (by as_aux_lemma => kernel_rfl) (fun _ _ _ h => h) (Or.inl ⟨by as_aux_lemma => kernel_rfl, ?_⟩) (by assumption) ?_
  case refine_1 => (intro Wz hSw; go_simp; try with_reducible rfl)
  try simp only [Act.put, List.getElem_toArray, List.getElem_cons_succ, List.getElem_cons_zero, List.setIfInBounds_toArray, List.set_cons_zero, List.set_cons_succ]
  refine wpAnyH_take (i := 76) (v := .bool false) rfl (by as_aux_lemma => kernel_rfl) (by as_aux_lemma => kernel_rfl) (by as_aux_lemma => kernel_rfl) (fun _ _ _ h => h) (Or.inl ⟨by as_aux_lemma => kernel_rfl, ?_⟩) (by assumption) ?_
  case refine_1 => (intro Wz hSw; have u : Wz.cell? ⟨g24, 2, none⟩ = some (.bool false) := hSw.n24.cell 2 _ rfl; go_simp; try with_reducible rfl)
  try simp only [Act.put, List.getElem_toArray, List.getElem_cons_succ, List.getElem_cons_zero, List.setIfInBounds_toArray, List.set_cons_zero, List.set_cons_succ]
  refine wpAnyH_take (i := 77) (v := .bool true) rfl (by as_aux_lemma => kernel_rfl) (by as_aux_lemma => kernel_rfl) (by as_aux_lemma => kernel_rfl) (fun _ _ _ h => h) (Or.inl ⟨by as_aux_lemma => kernel_rfl, ?_⟩) (by assumption) ?_
  case refine_1 => (intro Wz hSw; go_simp; try with_reducible rfl)
  try simp only [Act.put, List.getElem_toArray, List.getElem_cons_succ, List.getElem_cons_zero, List.setIfInBounds_toArray, List.set_cons_zero, List.set_cons_succ]
  refine wpAnyH_take (i := 78) (v := .bool true) rfl (by as_aux_lemma => kernel_rfl) (by as_aux_lemma => kernel_rfl) (by as_aux_lemma => kernel_rfl) (fun _ _ _ h => h) (Or.inl ⟨by as_aux_lemma => kernel_rfl, ?_⟩) (by assumption) ?_
  case refine_1 => (intro Wz hSw; go_simp; try with_reducible rfl)
  try simp only [Act.put, List.getElem_toArray, List.getElem_cons_succ, List.getElem_cons_zero, List.setIfInBounds_toArray, List.set_cons_zero, List.set_cons_succ]
  refine wpAnyH_take (i := 79) (v := .bool true) rfl (by as_aux_lemma => kernel_rfl) (by as_aux_lemma => kernel_rfl) (by as_aux_lemma => kernel_rfl) (fun _ _ _ h => h) (Or.inl ⟨by as_aux_lemma => kernel_rfl, ?_⟩) (by assumption) ?_
  case refine_1 => (intro Wz hSw; go_simp; try with_reducible rfl)
  try simp only [Act.put, List.getElem_toArray, List.getElem_cons_succ, List.getElem_cons_zero, List.setIfInBounds_toArray, List.set_cons_zero, List.set_cons_succ]
  refine wpAnyH_take (i := 80) (v := .pointer (some ⟨g24, 4, none⟩)) rfl (by as_aux_lemma => kernel_rfl) (by as_aux_lemma => kernel_rfl) (by as_aux_lemma => kernel_rfl) (fun _ _ _ h => h) (Or.inl ⟨by as_aux_lemma => kernel_rfl, ?_⟩) (by assumption) ?_
  case refine_1 => (intro Wz hSw; go_simp; try with_reducible rfl)
  try simp only [Act.put, List.getElem_toArray, List.getElem_cons_succ, List.getElem_cons_zero, List.setIfInBounds_toArray, List.set_cons_zero, List.set_cons_succ]
  refine wpAnyH_take (i := 81) (v := .bool false) rfl (by as_aux_lemma => kernel_rfl) (by as_aux_lemma => kernel_rfl) (by as_aux_lemma => kernel_rfl) (fun _ _ _ h => h) (Or.inl ⟨by as_aux_lemma => kernel_rfl, ?_⟩) (by assumption) ?_
  case refine_1 => (intro Wz hSw; have u : Wz.cell? ⟨g24, 4, none⟩ = some (.bool false) := hSw.n24.cell 4 _ rfl; go_simp; try with_reducible rfl)
  try simp only [Act.put, List.getElem_toArray, List.getElem_cons_succ, List.getElem_cons_zero, List.setIfInBounds_toArray, List.set_cons_zero, List.set_cons_succ]
  refine wpAnyH_take (i := 82) (v := .bool true) rfl (by as_aux_lemma => kernel_rfl) (by as_aux_lemma => kernel_rfl) (by as_aux_lemma => kernel_rfl) (fun _ _ _ h => h) (Or.inl ⟨by as_aux_lemma => kernel_rfl, ?_⟩) (by assumption) ?_
  case refine_1 => (intro Wz hSw; go_simp; try with_reducible rfl)
  try simp only [Act.put, List.getElem_toArray, List.getElem_cons_succ, List.getElem_cons_zero, List.setIfInBounds_toArray, List.set_cons_zero, List.set_cons_succ]
  refine wpAnyH_take (i := 83) (v := .bool true) rfl (by as_aux_lemma => kernel_rfl) (by as_aux_lemma => kernel_rfl) (by as_aux_lemma => kernel_rfl) (fun _ _ _ h => h) (Or.inl ⟨by as_aux_lemma => kernel_rfl, ?_⟩) (by assumption) ?_
  case refine_1 => (intro Wz hSw; go_simp; try with_reducible rfl)
  try simp only [Act.put, List.getElem_toArray, List.getElem_cons_succ, List.getElem_cons_zero, List.setIfInBounds_toArray, List.set_cons_zero, List.set_cons_succ]
  refine wpAnyH_take (i := 84) (v := .bool true) rfl (by as_aux_lemma => kernel_rfl) (by as_aux_lemma => kernel_rfl) (by as_aux_lemma => kernel_rfl) (fun _ _ _ h => h) (Or.inl ⟨by as_aux_lemma => kernel_rfl, ?_⟩) (by assumption) ?_
  case refine_1 => (intro Wz hSw; go_simp; try with_reducible rfl)
  try simp only [Act.put, List.getElem_toArray, List.getElem_cons_succ, List.getElem_cons_zero, List.setIfInBounds_toArray, List.set_cons_zero, List.set_cons_succ]
  refine wpAnyH_take (i := 85) (v := .slice (some ⟨g25, 0, none⟩) 1 1) rfl (by as_aux_lemma => kernel_rfl) (by as_aux_lemma => kernel_rfl) (by as_aux_lemma => kernel_rfl) (fun _ _ _ h => h) (Or.inl ⟨by as_aux_lemma => kernel_rfl, ?_⟩) (by assumption) ?_
  case refine_1 => (intro Wz hSw; go_simp; try with_reducible rfl)
  try simp only [Act.put, List.getElem_toArray, List.getElem_cons_succ, List.getElem_cons_zero, List.setIfInBounds_toArray, List.set_cons_zero, List.set_cons_succ]
  refine wpAnyH_take (i := 86) (v := .agg #[.bool false, .string ⟨#[]⟩, .bool false, .int .i64 784111777, .bool true]) rfl (by as_aux_lemma => kernel_rfl) (by as_aux_lemma => kernel_rfl) (by as_aux_lemma => kernel_rfl) (fun _ _ _ h => h) (Or.inl ⟨by as_aux_lemma => kernel_rfl, ?_⟩) (by assumption) ?_
  case refine_1 => exact fun Wz hSw => exec_loadE _ _ (by rfl) _ _ #[.bool false, .string ⟨#[]⟩, .bool false, .int .i64 784111777, .bool true] (0, 0) _ (by rfl) hSw.n27 Tryz.underlying89 rfl (by kernel_rfl)
  try simp only [Act.put, List.getElem_toArray, List.getElem_cons_succ, List.getElem_cons_zero, List.setIfInBounds_toArray, List.set_cons_zero, List.set_cons_succ]
  refine wpAnyH_ready (rs := [87]) (by as_aux_lemma => kernel_rfl) (by simp) ?_
  refine AllReadyH.cons rfl (fun K hK => ?_) AllReadyH.nil
  go_simp
  refine (HU1.out _ _ hHeld0.nm hHeld0.f25).mono ?_
  rintro e q1 ⟨rfl, hbb⟩
  have hHeld1 : (fun Wz : World => HoldN w g1 g23 g24 g27 g28 g11 (.slice (some ⟨g25, 0, none⟩) 1 1) v26 Wz) q1 := hHeld0.later hbb
  clear hbb
  go_simp
  refine hK.out _ _ hHeld1 (fun hHeld2 => ?_)
  clear hK K hHeld2
  try simp only [Act.put, List.getElem_toArray, List.getElem_cons_succ, List.getElem_cons_zero, List.setIfInBounds_toArray, List.set_cons_zero, List.set_cons_succ]
  refine wpAnyH_take (i := 88) (v := .bool true) rfl (by as_aux_lemma => kernel_rfl) (by as_aux_lemma => kernel_rfl) (by as_aux_lemma => kernel_rfl) (fun _ _ _ h => h) (Or.inl ⟨by as_aux_lemma => kernel_rfl, ?_⟩) (by assumption) ?_
  case refine_1 => (intro Wz hSw; go_simp; try with_reducible rfl)
  try simp only [Act.put, List.getElem_toArray, List.getElem_cons_succ, List.getElem_cons_zero, List.setIfInBounds_toArray, List.set_cons_zero, List.set_cons_succ]
  refine wpAnyH_take (i := 89) (v := .bool true) rfl (by as_aux_lemma => kernel_rfl) (by as_aux_lemma => kernel_rfl) (by as_aux_lemma => kernel_rfl) (fun _ _ _ h => h) (Or.inl ⟨by as_aux_lemma => kernel_rfl, ?_⟩) (by assumption) ?_
  case refine_1 => (intro Wz hSw; go_simp; try with_reducible rfl)
  try simp only [Act.put, List.getElem_toArray, List.getElem_cons_succ, List.getElem_cons_zero, List.setIfInBounds_toArray, List.set_cons_zero, List.set_cons_succ]
  refine wpAnyH_take (i := 90) (v := .slice (some ⟨g25, 0, none⟩) 1 1) rfl (by as_aux_lemma => kernel_rfl) (by as_aux_lemma => kernel_rfl) (by as_aux_lemma => kernel_rfl) (fun _ _ _ h => h) (Or.inl ⟨by as_aux_lemma => kernel_rfl, ?_⟩) (by assumption) ?_
  case refine_1 => (intro Wz hSw; go_simp; try with_reducible rfl)
  try simp only [Act.put, List.getElem_toArray, List.getElem_cons_succ, List.getElem_cons_zero, List.setIfInBounds_toArray, List.set_cons_zero, List.set_cons_succ]
  refine wpAnyH_take (i := 91) (v := .agg #[.bool false, .string ⟨#[]⟩, .bool false, .int .i64 784111778, .bool true]) rfl (by as_aux_lemma => kernel_rfl) (by as_aux_lemma => kernel_rfl) (by as_aux_lemma => kernel_rfl) (fun _ _ _ h => h) (Or.inl ⟨by as_aux_lemma => kernel_rfl, ?_⟩) (by assumption) ?_
  case refine_1 => exact fun Wz hSw => exec_loadE _ _ (by rfl) _ _ #[.bool false, .string ⟨#[]⟩, .bool false, .int .i64 784111778, .bool true] (0, 0) _ (by rfl) hSw.n28 Tryz.underlying89 rfl (by kernel_rfl)
  try simp only [Act.put, List.getElem_toArray, List.getElem_cons_succ, List.getElem_cons_zero, List.setIfInBounds_toArray, List.set_cons_zero, List.set_cons_succ]
  refine wpAnyH_ready (rs := [92]) (by as_aux_lemma => kernel_rfl) (by simp) ?_
  refine AllReadyH.cons rfl (fun K hK => ?_) AllReadyH.nil
  go_simp
  refine (HU2.out _ _ hHeld1.nm hHeld1.f25).mono ?_
  rintro e q2 ⟨rfl, hbb⟩
  have hHeld2 : (fun Wz : World => HoldN w g1 g23 g24 g27 g28 g11 (.slice (some ⟨g25, 0, none⟩) 1 1) v26 Wz) q2 := hHeld1.later hbb
  clear hbb
  go_simp
  refine hK.out _ _ hHeld2 (fun hHeld2 => ?_)
  clear hK K hHeld2
  try simp only [Act.put, List.getElem_toArray, List.getElem_cons_succ, List.getElem_cons_zero, List.setIfInBounds_toArray, List.set_cons_zero, List.set_cons_succ]
  refine wpAnyH_take (i := 93) (v := .bool true) rfl (by as_aux_lemma => kernel_rfl) (by as_aux_lemma => kernel_rfl) (by as_aux_lemma => kernel_rfl) (fun _ _ _ h => h) (Or.inl ⟨by as_aux_lemma => kernel_rfl, ?_⟩) (by assumption) ?_
  case refine_1 => (intro Wz hSw; go_simp; try with_reducible rfl)
  try simp only [Act.put, List.getElem_toArray, List.getElem_cons_succ, List.getElem_cons_zero, List.setIfInBounds_toArray, List.set_cons_zero, List.set_cons_succ]
  refine wpAnyH_take (i := 94) (v := .bool true) rfl (by as_aux_lemma => kernel_rfl) (by as_aux_lemma => kernel_rfl) (by as_aux_lemma => kernel_rfl) (fun _ _ _ h => h) (Or.inl ⟨by as_aux_lemma => kernel_rfl, ?_⟩) (by assumption) ?_
  case refine_1 => (intro Wz hSw; go_simp; try with_reducible rfl)
  try simp only [Act.put, List.getElem_toArray, List.getElem_cons_succ, List.getElem_cons_zero, List.setIfInBounds_toArray, List.set_cons_zero, List.set_cons_succ]
  refine wpAnyH_take (i := 95) (v := .bool true) rfl (by as_aux_lemma => kernel_rfl) (by as_aux_lemma => kernel_rfl) (by as_aux_lemma => kernel_rfl) (fun _ _ _ h => h) (Or.inl ⟨by as_aux_lemma => kernel_rfl, ?_⟩) (by assumption) ?_
  case refine_1 => (intro Wz hSw; go_simp; try with_reducible rfl)
  try simp only [Act.put, List.getElem_toArray, List.getElem_cons_succ, List.getElem_cons_zero, List.setIfInBounds_toArray, List.set_cons_zero, List.set_cons_succ]
  refine wpAnyH_take (i := 98) (v := .slice (some ⟨g25, 0, none⟩) 1 1) rfl (by as_aux_lemma => kernel_rfl) (by as_aux_lemma => kernel_rfl) (by as_aux_lemma => kernel_rfl) (fun _ _ _ h => h) (Or.inl ⟨by as_aux_lemma => kernel_rfl, ?_⟩) (by assumption) ?_
  case refine_1 => (intro Wz hSw; go_simp; try with_reducible rfl)
  try simp only [Act.put, List.getElem_toArray, List.getElem_cons_succ, List.getElem_cons_zero, List.setIfInBounds_toArray, List.set_cons_zero, List.set_cons_succ]
  refine wpAnyH_take (i := 100) (v := .agg #[.bool false, .string ⟨#[]⟩, .bool false, .int .i64 784111777, .bool true]) rfl (by as_aux_lemma => kernel_rfl) (by as_aux_lemma => kernel_rfl) (by as_aux_lemma => kernel_rfl) (fun _ _ _ h => h) (Or.inl ⟨by as_aux_lemma => kernel_rfl, ?_⟩) (by assumption) ?_
  case refine_1 => exact fun Wz hSw => exec_loadE _ _ (by rfl) _ _ #[.bool false, .string ⟨#[]⟩, .bool false, .int .i64 784111777, .bool true] (0, 0) _ (by rfl) hSw.n27 Tryz.underlying89 rfl (by kernel_rfl)
  try simp only [Act.put, List.getElem_toArray, List.getElem_cons_succ, List.getElem_cons_zero, List.setIfInBounds_toArray, List.set_cons_zero, List.set_cons_succ]
  refine wpAnyH_ready (rs := [96]) (by as_aux_lemma => kernel_rfl) (by simp) ?_
  refine AllReadyH.cons rfl (fun K hK => ?_) AllReadyH.nil
  go_simp
  refine (HO.out _ _ _).mono ?_
  rintro e q3 ⟨rfl, hbb⟩
  have hHeld3 : (fun Wz : World => HoldN w g1 g23 g24 g27 g28 g11 (.slice (some ⟨g25, 0, none⟩) 1 1) v26 Wz) q3 := hHeld2.later hbb
  clear hbb
  go_simp
  refine hK.out _ _ hHeld3 (fun hHeld2 => ?_)
  clear hK K hHeld2
  try simp only [Act.put, List.getElem_toArray, List.getElem_cons_succ, List.getElem_cons_zero, List.setIfInBounds_toArray, List.set_cons_zero, List.set_cons_succ]
  refine wpAnyH_ready (rs := [97]) (by as_aux_lemma => kernel_rfl) (by simp) ?_
  refine AllReadyH.cons rfl (fun K hK => ?_) AllReadyH.nil
  go_simp
  have hbb := below_allocW q3 (Obj.cells #[.string ⟨#[73, 102, 45, 78, 111, 110, 101, 45, 77, 97, 116, 99, 104]⟩, .string ⟨#[120]⟩] 31)
  have hHeld4 : (fun Wz : World => HoldN w g1 g23 g24 g27 g28 g11 (.slice (some ⟨g25, 0, none⟩) 1 1) v26 Wz) (q3.alloc (Obj.cells #[.string ⟨#[73, 102, 45, 78, 111, 110, 101, 45, 77, 97, 116, 99, 104]⟩, .string ⟨#[120]⟩] 31)) := hHeld3.later hbb
  clear hbb
  refine hK.out _ _ hHeld4 (fun hHeld2 => ?_)
  clear hK K hHeld2
  try simp only [Act.put, List.getElem_toArray, List.getElem_cons_succ, List.getElem_cons_zero, List.setIfInBounds_toArray, List.set_cons_zero, List.set_cons_succ]
  refine wpAnyH_ready (rs := [99]) (by as_aux_lemma => kernel_rfl) (by simp) ?_
  refine AllReadyH.cons rfl (fun K hK => ?_) AllReadyH.nil
  have hown : ((q3.alloc (Obj.cells #[.string ⟨#[73, 102, 45, 78, 111, 110, 101, 45, 77, 97, 116, 99, 104]⟩, .string ⟨#[120]⟩] 31))).ownsRow q3.heap.size 31 2 (.slice (some ⟨q3.heap.size, 0, none⟩) 1 1) 1 (fcells [(nINM, [120])]) := by
    have h1 := World.ownsRow_lit (base := q3.heap.size) (e := 31) (size := 2) q3 #[.string ⟨#[73, 102, 45, 78, 111, 110, 101, 45, 77, 97, 116, 99, 104]⟩, .string ⟨#[120]⟩] 1 (Nat.le_refl _) (by decide) rfl
    exact h1
  refine joinF_run _ _ _ _ _ _ _ rfl q3.heap.size _ _ [(nINM, [120])] [(nIMS, daE)] rfl rfl hown hHeld4.f25 (fun n c h => by injection h with h1; cases h1) (by simp) (by decide) (by decide) (fun vj wj hoj hgj => ?_)
  have hbb : Below q3.heap.size q3 wj := (below_allocW q3 _).trans ((below_of_grownF hgj hown (by simp)))
  have hHeld5 : (fun Wz : World => HoldN w g1 g23 g24 g27 g28 g11 (.slice (some ⟨g25, 0, none⟩) 1 1) v26 Wz) wj := hHeld3.later hbb
  have hfj := isFlds_own hoj
  clear hbb hown hgj hoj
  refine hK.out _ _ hHeld5 (fun hHeld2 => ?_)
  clear hK K hHeld2
  try simp only [Act.put, List.getElem_toArray, List.getElem_cons_succ, List.getElem_cons_zero, List.setIfInBounds_toArray, List.set_cons_zero, List.set_cons_succ]
  refine wpAnyH_ready (rs := [101]) (by as_aux_lemma => kernel_rfl) (by simp) ?_
  refine AllReadyH.cons rfl (fun K hK => ?_) AllReadyH.nil
  go_simp
  refine (HU3.out vj _ hHeld5.nm hfj).mono ?_
  rintro e q6 ⟨rfl, hbb⟩
  have hHeld6 : (fun Wz : World => HoldN w g1 g23 g24 g27 g28 g11 (.slice (some ⟨g25, 0, none⟩) 1 1) v26 Wz) q6 := hHeld5.later hbb
  clear hfj
  clear hbb
  go_simp
  refine hK.out _ _ hHeld6 (fun hHeld2 => ?_)
  clear hK K hHeld2
  try simp only [Act.put, List.getElem_toArray, List.getElem_cons_succ, List.getElem_cons_zero, List.setIfInBounds_toArray, List.set_cons_zero, List.set_cons_succ]
  refine wpAnyH_take (i := 102) (v := .bool true) rfl (by as_aux_lemma => kernel_rfl) (by as_aux_lemma => kernel_rfl) (by as_aux_lemma => kernel_rfl) (fun _ _ _ h => h) (Or.inl ⟨by as_aux_lemma => kernel_rfl, ?_⟩) (by assumption) ?_
  case refine_1 => (intro Wz hSw; go_simp; try with_reducible rfl)
  try simp only [Act.put, List.getElem_toArray, List.getElem_cons_succ, List.getElem_cons_zero, List.setIfInBounds_toArray, List.set_cons_zero, List.set_cons_succ]
  refine wpAnyH_take (i := 103) (v := .bool true) rfl (by as_aux_lemma => kernel_rfl) (by as_aux_lemma => kernel_rfl) (by as_aux_lemma => kernel_rfl) (fun _ _ _ h => h) (Or.inl ⟨by as_aux_lemma => kernel_rfl, ?_⟩) (by assumption) ?_
  case refine_1 => (intro Wz hSw; go_simp; try with_reducible rfl)
  try simp only [Act.put, List.getElem_toArray, List.getElem_cons_succ, List.getElem_cons_zero, List.setIfInBounds_toArray, List.set_cons_zero, List.set_cons_succ]
  refine wpAnyH_take (i := 104) (v := .bool true) rfl (by as_aux_lemma => kernel_rfl) (by as_aux_lemma => kernel_rfl) (by as_aux_lemma => kernel_rfl) (fun _ _ _ h => h) (Or.inl ⟨by as_aux_lemma => kernel_rfl, ?_⟩) (by assumption) ?_
  case refine_1 => (intro Wz hSw; go_simp; try with_reducible rfl)
  try simp only [Act.put, List.getElem_toArray, List.getElem_cons_succ, List.getElem_cons_zero, List.setIfInBounds_toArray, List.set_cons_zero, List.set_cons_succ]
  refine wpAnyH_ready (rs := [105]) (by as_aux_lemma => kernel_rfl) (by simp) ?_
  refine AllReadyH.cons rfl (fun K hK => ?_) AllReadyH.nil
  go_simp
  refine (HO.out _ _ _).mono ?_
  rintro e q7 ⟨rfl, hbb⟩
  have hHeld7 : (fun Wz : World => HoldN w g1 g23 g24 g27 g28 g11 (.slice (some ⟨g25, 0, none⟩) 1 1) v26 Wz) q7 := hHeld6.later hbb
  clear hbb
  go_simp
  refine hK.out _ _ hHeld7 (fun hHeld2 => ?_)
  clear hK K hHeld2
  try simp only [Act.put, List.getElem_toArray, List.getElem_cons_succ, List.getElem_cons_zero, List.setIfInBounds_toArray, List.set_cons_zero, List.set_cons_succ]
  refine wpAnyH_ready (rs := [106, 107]) (by as_aux_lemma => kernel_rfl) (by simp) ?_
  refine AllReadyH.cons rfl (fun K hK => ?_) (AllReadyH.cons rfl (fun K hK => ?_) AllReadyH.nil)
  · skip
    go_simp
    have hbb := below_allocW q7 (Obj.cells #[.string ⟨#[73, 102, 45, 78, 111, 110, 101, 45, 77, 97, 116, 99, 104]⟩, .string ⟨#[42]⟩] 31)
    have hHeld8 : (fun Wz : World => HoldN w g1 g23 g24 g27 g28 g11 (.slice (some ⟨g25, 0, none⟩) 1 1) v26 Wz) (q7.alloc (Obj.cells #[.string ⟨#[73, 102, 45, 78, 111, 110, 101, 45, 77, 97, 116, 99, 104]⟩, .string ⟨#[42]⟩] 31)) := hHeld7.later hbb
    clear hbb
    refine hK.out _ _ hHeld8 (fun hHeld2 => ?_)
    clear hK K hHeld2
    try simp only [Act.put, List.getElem_toArray, List.getElem_cons_succ, List.getElem_cons_zero, List.setIfInBounds_toArray, List.set_cons_zero, List.set_cons_succ]
    refine wpAnyH_ready (rs := [107]) (by as_aux_lemma => kernel_rfl) (by simp) ?_
    refine AllReadyH.cons rfl (fun K hK => ?_) AllReadyH.nil
    go_simp
    refine (HQ.out _).mono ?_
    rintro e q9 ⟨rfl, hbb⟩
    have hHeld9 : (fun Wz : World => HoldN w g1 g23 g24 g27 g28 g11 (.slice (some ⟨g25, 0, none⟩) 1 1) v26 Wz) q9 := hHeld8.later hbb
    have hfq := isFlds_below (isFlds_litN q7 [(nINM, [42])] #[.string ⟨#[73, 102, 45, 78, 111, 110, 101, 45, 77, 97, 116, 99, 104]⟩, .string ⟨#[42]⟩] rfl (by decide) rfl) hbb
    clear hbb
    go_simp
    refine hK.out _ _ hHeld9 (fun hHeld2 => ?_)
    clear hK K hHeld2
    try simp only [Act.put, List.getElem_toArray, List.getElem_cons_succ, List.getElem_cons_zero, List.setIfInBounds_toArray, List.set_cons_zero, List.set_cons_succ]
    refine wpAnyH_ready (rs := [108]) (by as_aux_lemma => kernel_rfl) (by simp) ?_
    refine AllReadyH.cons rfl (fun K hK => ?_) AllReadyH.nil
    go_simp
    refine (HU4b.out _ _ hHeld9.nm hfq).mono ?_
    rintro e q10 ⟨rfl, hbb⟩
    have hHeld10 : (fun Wz : World => HoldN w g1 g23 g24 g27 g28 g11 (.slice (some ⟨g25, 0, none⟩) 1 1) v26 Wz) q10 := hHeld9.later hbb
    clear hfq
    clear hbb
    go_simp
    refine hK.out _ _ hHeld10 (fun hHeld2 => ?_)
    clear hK K hHeld2
    try simp only [Act.put, List.getElem_toArray, List.getElem_cons_succ, List.getElem_cons_zero, List.setIfInBounds_toArray, List.set_cons_zero, List.set_cons_succ]
    refine wpAnyH_take (i := 109) (v := .bool true) rfl (by as_aux_lemma => kernel_rfl) (by as_aux_lemma => kernel_rfl) (by as_aux_lemma => kernel_rfl) (fun _ _ _ h => h) (Or.inl ⟨by as_aux_lemma => kernel_rfl, ?_⟩) (by assumption) ?_
    case refine_1 => (intro Wz hSw; go_simp; try with_reducible rfl)
    try simp only [Act.put, List.getElem_toArray, List.getElem_cons_succ, List.getElem_cons_zero, List.setIfInBounds_toArray, List.set_cons_zero, List.set_cons_succ]
    refine wpAnyH_take (i := 110) (v := .bool true) rfl (by as_aux_lemma => kernel_rfl) (by as_aux_lemma => kernel_rfl) (by as_aux_lemma => kernel_rfl) (fun _ _ _ h => h) (Or.inl ⟨by as_aux_lemma => kernel_rfl, ?_⟩) (by assumption) ?_
    case refine_1 => (intro Wz hSw; go_simp; try with_reducible rfl)
    try simp only [Act.put, List.getElem_toArray, List.getElem_cons_succ, List.getElem_cons_zero, List.setIfInBounds_toArray, List.set_cons_zero, List.set_cons_succ]
    refine wpAnyH_take (i := 113) (v := .agg #[.bool false, .string ⟨#[]⟩, .bool false, .int .i64 784111777, .bool true]) rfl (by as_aux_lemma => kernel_rfl) (by as_aux_lemma => kernel_rfl) (by as_aux_lemma => kernel_rfl) (fun _ _ _ h => h) (Or.inl ⟨by as_aux_lemma => kernel_rfl, ?_⟩) (by assumption) ?_
    case refine_1 => exact fun Wz hSw => exec_loadE _ _ (by rfl) _ _ #[.bool false, .string ⟨#[]⟩, .bool false, .int .i64 784111777, .bool true] (0, 0) _ (by rfl) hSw.n27 Tryz.underlying89 rfl (by kernel_rfl)
    try simp only [Act.put, List.getElem_toArray, List.getElem_cons_succ, List.getElem_cons_zero, List.setIfInBounds_toArray, List.set_cons_zero, List.set_cons_succ]
    refine wpAnyH_ready (rs := [111]) (by as_aux_lemma => kernel_rfl) (by simp) ?_
    refine AllReadyH.cons rfl (fun K hK => ?_) AllReadyH.nil
    go_simp
    refine (HO.out _ _ _).mono ?_
    rintro e q11 ⟨rfl, hbb⟩
    have hHeld11 : (fun Wz : World => HoldN w g1 g23 g24 g27 g28 g11 (.slice (some ⟨g25, 0, none⟩) 1 1) v26 Wz) q11 := hHeld10.later hbb
    clear hbb
    go_simp
    refine hK.out _ _ hHeld11 (fun hHeld2 => ?_)
    clear hK K hHeld2
    try simp only [Act.put, List.getElem_toArray, List.getElem_cons_succ, List.getElem_cons_zero, List.setIfInBounds_toArray, List.set_cons_zero, List.set_cons_succ]
    refine wpAnyH_ready (rs := [112]) (by as_aux_lemma => kernel_rfl) (by simp) ?_
    refine AllReadyH.cons rfl (fun K hK => ?_) AllReadyH.nil
    go_simp
    have hbb := below_allocW q11 (Obj.cells #[.string ⟨#[73, 102, 45, 78, 111, 110, 101, 45, 77, 97, 116, 99, 104]⟩, .string ⟨#[42]⟩] 31)
    have hHeld12 : (fun Wz : World => HoldN w g1 g23 g24 g27 g28 g11 (.slice (some ⟨g25, 0, none⟩) 1 1) v26 Wz) (q11.alloc (Obj.cells #[.string ⟨#[73, 102, 45, 78, 111, 110, 101, 45, 77, 97, 116, 99, 104]⟩, .string ⟨#[42]⟩] 31)) := hHeld11.later hbb
    clear hbb
    refine hK.out _ _ hHeld12 (fun hHeld2 => ?_)
    clear hK K hHeld2
    try simp only [Act.put, List.getElem_toArray, List.getElem_cons_succ, List.getElem_cons_zero, List.setIfInBounds_toArray, List.set_cons_zero, List.set_cons_succ]
    refine wpAnyH_ready (rs := [114]) (by as_aux_lemma => kernel_rfl) (by simp) ?_
    refine AllReadyH.cons rfl (fun K hK => ?_) AllReadyH.nil
    go_simp
    refine (HU5.out q11 hHeld11.nm).mono ?_
    rintro e q13 ⟨rfl, hbb⟩
    have hHeld13 : (fun Wz : World => HoldN w g1 g23 g24 g27 g28 g11 (.slice (some ⟨g25, 0, none⟩) 1 1) v26 Wz) q13 := hHeld11.later hbb
    clear hbb
    go_simp
    refine hK.out _ _ hHeld13 (fun hHeld2 => ?_)
    clear hK K hHeld2
    try simp only [Act.put, List.getElem_toArray, List.getElem_cons_succ, List.getElem_cons_zero, List.setIfInBounds_toArray, List.set_cons_zero, List.set_cons_succ]
    refine wpAnyH_take (i := 115) (v := .bool true) rfl (by as_aux_lemma => kernel_rfl) (by as_aux_lemma => kernel_rfl) (by as_aux_lemma => kernel_rfl) (fun _ _ _ h => h) (Or.inl ⟨by as_aux_lemma => kernel_rfl, ?_⟩) (by assumption) ?_
    case refine_1 => (intro Wz hSw; go_simp; try with_reducible rfl)
    try simp only [Act.put, List.getElem_toArray, List.getElem_cons_succ, List.getElem_cons_zero, List.setIfInBounds_toArray, List.set_cons_zero, List.set_cons_succ]
    refine wpAnyH_take (i := 116) (v := .bool true) rfl (by as_aux_lemma => kernel_rfl) (by as_aux_lemma => kernel_rfl) (by as_aux_lemma => kernel_rfl) (fun _ _ _ h => h) (Or.inl ⟨by as_aux_lemma => kernel_rfl, ?_⟩) (by assumption) ?_
    case refine_1 => (intro Wz hSw; go_simp; try with_reducible rfl)
    try simp only [Act.put, List.getElem_toArray, List.getElem_cons_succ, List.getElem_cons_zero, List.setIfInBounds_toArray, List.set_cons_zero, List.set_cons_succ]
    refine wpAnyH_take (i := 117) (v := .agg #[.bool false, .string ⟨#[97]⟩, .bool true, .int .i64 784111777, .bool true]) rfl (by as_aux_lemma => kernel_rfl) (by as_aux_lemma => kernel_rfl) (by as_aux_lemma => kernel_rfl) (fun _ _ _ h => h) (Or.inl ⟨by as_aux_lemma => kernel_rfl, ?_⟩) (by assumption) ?_
    case refine_1 => exact fun Wz hSw => exec_loadE _ _ (by rfl) _ _ #[.bool false, .string ⟨#[97]⟩, .bool true, .int .i64 784111777, .bool true] (0, 0) _ (by rfl) hSw.n23 Tryz.underlying89 rfl (by kernel_rfl)
    try simp only [Act.put, List.getElem_toArray, List.getElem_cons_succ, List.getElem_cons_zero, List.setIfInBounds_toArray, List.set_cons_zero, List.set_cons_succ]
    refine wpAnyH_ready (rs := [118]) (by as_aux_lemma => kernel_rfl) (by simp) ?_
    refine AllReadyH.cons rfl (fun K hK => ?_) AllReadyH.nil
    go_simp
    refine (HU6.out _ hHeld13.nm).mono ?_
    rintro e q14 ⟨rfl, hbb⟩
    have hHeld14 : (fun Wz : World => HoldN w g1 g23 g24 g27 g28 g11 (.slice (some ⟨g25, 0, none⟩) 1 1) v26 Wz) q14 := hHeld13.later hbb
    clear hbb
    go_simp
    refine hK.out _ _ hHeld14 (fun hHeld2 => ?_)
    clear hK K hHeld2
    try simp only [Act.put, List.getElem_toArray, List.getElem_cons_succ, List.getElem_cons_zero, List.setIfInBounds_toArray, List.set_cons_zero, List.set_cons_succ]
    refine wpAnyH_take (i := 119) (v := .bool true) rfl (by as_aux_lemma => kernel_rfl) (by as_aux_lemma => kernel_rfl) (by as_aux_lemma => kernel_rfl) (fun _ _ _ h => h) (Or.inl ⟨by as_aux_lemma => kernel_rfl, ?_⟩) (by assumption) ?_
    case refine_1 => (intro Wz hSw; go_simp; try with_reducible rfl)
    try simp only [Act.put, List.getElem_toArray, List.getElem_cons_succ, List.getElem_cons_zero, List.setIfInBounds_toArray, List.set_cons_zero, List.set_cons_succ]
    refine wpAnyH_take (i := 120) (v := .bool true) rfl (by as_aux_lemma => kernel_rfl) (by as_aux_lemma => kernel_rfl) (by as_aux_lemma => kernel_rfl) (fun _ _ _ h => h) (Or.inl ⟨by as_aux_lemma => kernel_rfl, ?_⟩) (by assumption) ?_
    case refine_1 => (intro Wz hSw; go_simp; try with_reducible rfl)
    try simp only [Act.put, List.getElem_toArray, List.getElem_cons_succ, List.getElem_cons_zero, List.setIfInBounds_toArray, List.set_cons_zero, List.set_cons_succ]
    refine wpAnyH_take (i := 121) (v := .bool true) rfl (by as_aux_lemma => kernel_rfl) (by as_aux_lemma => kernel_rfl) (by as_aux_lemma => kernel_rfl) (fun _ _ _ h => h) (Or.inl ⟨by as_aux_lemma => kernel_rfl, ?_⟩) (by assumption) ?_
    case refine_1 => (intro Wz hSw; go_simp; try with_reducible rfl)
    try simp only [Act.put, List.getElem_toArray, List.getElem_cons_succ, List.getElem_cons_zero, List.setIfInBounds_toArray, List.set_cons_zero, List.set_cons_succ]
    refine wpAnyH_take (i := 122) (v := v26) rfl (by as_aux_lemma => kernel_rfl) (by as_aux_lemma => kernel_rfl) (by as_aux_lemma => kernel_rfl) (fun _ _ _ h => h) (Or.inl ⟨by as_aux_lemma => kernel_rfl, ?_⟩) (by assumption) ?_
    case refine_1 => (intro Wz hSw; go_simp; try with_reducible rfl)
    try simp only [Act.put, List.getElem_toArray, List.getElem_cons_succ, List.getElem_cons_zero, List.setIfInBounds_toArray, List.set_cons_zero, List.set_cons_succ]
    refine wpAnyH_ready (rs := [123]) (by as_aux_lemma => kernel_rfl) (by simp) ?_
    refine AllReadyH.cons rfl (fun K hK => ?_) AllReadyH.nil
    go_simp
    refine (HO.out _ _ _).mono ?_
    rintro e q15 ⟨rfl, hbb⟩
    have hHeld15 : (fun Wz : World => HoldN w g1 g23 g24 g27 g28 g11 (.slice (some ⟨g25, 0, none⟩) 1 1) v26 Wz) q15 := hHeld14.later hbb
    clear hbb
    go_simp
    refine hK.out _ _ hHeld15 (fun hHeld2 => ?_)
    clear hK K hHeld2
    try simp only [Act.put, List.getElem_toArray, List.getElem_cons_succ, List.getElem_cons_zero, List.setIfInBounds_toArray, List.set_cons_zero, List.set_cons_succ]
    refine wpAnyH_ready (rs := [124]) (by as_aux_lemma => kernel_rfl) (by simp) ?_
    refine AllReadyH.cons rfl (fun K hK => ?_) AllReadyH.nil
    go_simp
    refine (HO.out _ _ _).mono ?_
    rintro e q16 ⟨rfl, hbb⟩
    have hHeld16 : (fun Wz : World => HoldN w g1 g23 g24 g27 g28 g11 (.slice (some ⟨g25, 0, none⟩) 1 1) v26 Wz) q16 := hHeld15.later hbb
    clear hbb
    go_simp
    refine hK.out _ _ hHeld16 (fun hHeld2 => ?_)
    clear hK K hHeld2
    try simp only [Act.put, List.getElem_toArray, List.getElem_cons_succ, List.getElem_cons_zero, List.setIfInBounds_toArray, List.set_cons_zero, List.set_cons_succ]
    refine wpAnyH_ready (rs := [125]) (by as_aux_lemma => kernel_rfl) (by simp) ?_
    refine AllReadyH.cons rfl (fun K hK => ?_) AllReadyH.nil
    go_simp
    refine (HO.out _ _ _).mono ?_
    rintro e q17 ⟨rfl, hbb⟩
    have hHeld17 : (fun Wz : World => HoldN w g1 g23 g24 g27 g28 g11 (.slice (some ⟨g25, 0, none⟩) 1 1) v26 Wz) q17 := hHeld16.later hbb
    clear hbb
    go_simp
    refine hK.out _ _ hHeld17 (fun hHeld2 => ?_)
    clear hK K hHeld2
    try simp only [Act.put, List.getElem_toArray, List.getElem_cons_succ, List.getElem_cons_zero, List.setIfInBounds_toArray, List.set_cons_zero, List.set_cons_succ]
    refine wpAnyH_ready (rs := [126]) (by as_aux_lemma => kernel_rfl) (by simp) ?_
    refine AllReadyH.cons rfl (fun K hK => ?_) AllReadyH.nil
    go_simp
    have hbb := below_allocW q17 (Obj.cells #[.string ⟨#[65]⟩, .string ⟨#[49]⟩, .string ⟨#[73, 102, 45, 78, 111, 110, 101, 45, 77, 97, 116, 99, 104]⟩, .string ⟨#[34, 97, 34]⟩, .string ⟨#[73, 102, 45, 77, 111, 100, 105, 102, 105, 101, 100, 45, 83, 105, 110, 99, 101]⟩, .string ⟨#[83, 117, 110, 44, 32, 48, 54, 32, 78, 111, 118, 32, 49, 57, 57, 52, 32, 48, 56, 58, 52, 57, 58, 51, 55, 32, 71, 77, 84]⟩] 31)
    have hHeld18 : (fun Wz : World => HoldN w g1 g23 g24 g27 g28 g11 (.slice (some ⟨g25, 0, none⟩) 1 1) v26 Wz) (q17.alloc (Obj.cells #[.string ⟨#[65]⟩, .string ⟨#[49]⟩, .string ⟨#[73, 102, 45, 78, 111, 110, 101, 45, 77, 97, 116, 99, 104]⟩, .string ⟨#[34, 97, 34]⟩, .string ⟨#[73, 102, 45, 77, 111, 100, 105, 102, 105, 101, 100, 45, 83, 105, 110, 99, 101]⟩, .string ⟨#[83, 117, 110, 44, 32, 48, 54, 32, 78, 111, 118, 32, 49, 57, 57, 52, 32, 48, 56, 58, 52, 57, 58, 51, 55, 32, 71, 77, 84]⟩] 31)) := hHeld17.later hbb
    clear hbb
    refine hK.out _ _ hHeld18 (fun hHeld2 => ?_)
    clear hK K hHeld2
    try simp only [Act.put, List.getElem_toArray, List.getElem_cons_succ, List.getElem_cons_zero, List.setIfInBounds_toArray, List.set_cons_zero, List.set_cons_succ]
    refine wpAnyH_ready (rs := [127]) (by as_aux_lemma => kernel_rfl) (by simp) ?_
    refine AllReadyH.cons rfl (fun K hK => ?_) AllReadyH.nil
    go_simp
    refine (HSm.out v26 q17 hHeld18.f26).mono ?_
    rintro e q19 ⟨rfl, hbb⟩
    have hHeld19 : (fun Wz : World => HoldN w g1 g23 g24 g27 g28 g11 (.slice (some ⟨g25, 0, none⟩) 1 1) v26 Wz) q19 := hHeld17.later hbb
    clear hbb
    go_simp
    refine hK.out _ _ hHeld19 (fun hHeld2 => ?_)
    clear hK K hHeld2
    try simp only [Act.put, List.getElem_toArray, List.getElem_cons_succ, List.getElem_cons_zero, List.setIfInBounds_toArray, List.set_cons_zero, List.set_cons_succ]
    refine wpAnyH_take (i := 128) (v := .bool true) rfl (by as_aux_lemma => kernel_rfl) (by as_aux_lemma => kernel_rfl) (by as_aux_lemma => kernel_rfl) (fun _ _ _ h => h) (Or.inl ⟨by as_aux_lemma => kernel_rfl, ?_⟩) (by assumption) ?_
    case refine_1 => (intro Wz hSw; go_simp; try with_reducible rfl)
    try simp only [Act.put, List.getElem_toArray, List.getElem_cons_succ, List.getElem_cons_zero, List.setIfInBounds_toArray, List.set_cons_zero, List.set_cons_succ]
    refine wpAnyH_take (i := 129) (v := .bool true) rfl (by as_aux_lemma => kernel_rfl) (by as_aux_lemma => kernel_rfl) (by as_aux_lemma => kernel_rfl) (fun _ _ _ h => h) (Or.inl ⟨by as_aux_lemma => kernel_rfl, ?_⟩) (by assumption) ?_
    case refine_1 => (intro Wz hSw; go_simp; try with_reducible rfl)
    try simp only [Act.put, List.getElem_toArray, List.getElem_cons_succ, List.getElem_cons_zero, List.setIfInBounds_toArray, List.set_cons_zero, List.set_cons_succ]
    refine wpAnyH_take (i := 130) (v := .slice (some ⟨g11, 0, none⟩) 2 c11) rfl (by as_aux_lemma => kernel_rfl) (by as_aux_lemma => kernel_rfl) (by as_aux_lemma => kernel_rfl) (fun _ _ _ h => h) (Or.inl ⟨by as_aux_lemma => kernel_rfl, ?_⟩) (by assumption) ?_
    case refine_1 => (intro Wz hSw; go_simp; try with_reducible rfl)
    try simp only [Act.put, List.getElem_toArray, List.getElem_cons_succ, List.getElem_cons_zero, List.setIfInBounds_toArray, List.set_cons_zero, List.set_cons_succ]
    refine wpAnyH_take (i := 131) (v := .pointer (some ⟨g11, 0, none⟩)) rfl (by as_aux_lemma => kernel_rfl) (by as_aux_lemma => kernel_rfl) (by as_aux_lemma => kernel_rfl) (fun _ _ _ h => h) (Or.inl ⟨by as_aux_lemma => kernel_rfl, ?_⟩) (by assumption) ?_
    case refine_1 => (intro Wz hSw; go_simp; try with_reducible rfl)
    try simp only [Act.put, List.getElem_toArray, List.getElem_cons_succ, List.getElem_cons_zero, List.setIfInBounds_toArray, List.set_cons_zero, List.set_cons_succ]
    refine wpAnyH_take (i := 132) (v := .agg #[.bool false, .string ⟨#[97]⟩]) rfl (by as_aux_lemma => kernel_rfl) (by as_aux_lemma => kernel_rfl) (by as_aux_lemma => kernel_rfl) (fun _ _ _ h => h) (Or.inl ⟨by as_aux_lemma => kernel_rfl, ?_⟩) (by assumption) ?_
    case refine_1 => (intro Wz hSw; have u := hSw.t11.c0; have u2 := hSw.t11.c1; go_simp; try with_reducible rfl)
    try simp only [Act.put, List.getElem_toArray, List.getElem_cons_succ, List.getElem_cons_zero, List.setIfInBounds_toArray, List.set_cons_zero, List.set_cons_succ]
    refine wpAnyH_take (i := 133) (v := .slice (some ⟨g11, 0, none⟩) 2 c11) rfl (by as_aux_lemma => kernel_rfl) (by as_aux_lemma => kernel_rfl) (by as_aux_lemma => kernel_rfl) (fun _ _ _ h => h) (Or.inl ⟨by as_aux_lemma => kernel_rfl, ?_⟩) (by assumption) ?_
    case refine_1 => (intro Wz hSw; go_simp; try with_reducible rfl)
    try simp only [Act.put, List.getElem_toArray, List.getElem_cons_succ, List.getElem_cons_zero, List.setIfInBounds_toArray, List.set_cons_zero, List.set_cons_succ]
    refine wpAnyH_take (i := 134) (v := .pointer (some ⟨g11, 0, none⟩)) rfl (by as_aux_lemma => kernel_rfl) (by as_aux_lemma => kernel_rfl) (by as_aux_lemma => kernel_rfl) (fun _ _ _ h => h) (Or.inl ⟨by as_aux_lemma => kernel_rfl, ?_⟩) (by assumption) ?_
    case refine_1 => (intro Wz hSw; go_simp; try with_reducible rfl)
    try simp only [Act.put, List.getElem_toArray, List.getElem_cons_succ, List.getElem_cons_zero, List.setIfInBounds_toArray, List.set_cons_zero, List.set_cons_succ]
    refine wpAnyH_take (i := 135) (v := .agg #[.bool false, .string ⟨#[97]⟩]) rfl (by as_aux_lemma => kernel_rfl) (by as_aux_lemma => kernel_rfl) (by as_aux_lemma => kernel_rfl) (fun _ _ _ h => h) (Or.inl ⟨by as_aux_lemma => kernel_rfl, ?_⟩) (by assumption) ?_
    case refine_1 => (intro Wz hSw; have u := hSw.t11.c0; have u2 := hSw.t11.c1; go_simp; try with_reducible rfl)
    try simp only [Act.put, List.getElem_toArray, List.getElem_cons_succ, List.getElem_cons_zero, List.setIfInBounds_toArray, List.set_cons_zero, List.set_cons_succ]
    refine wpAnyH_ready (rs := [136]) (by as_aux_lemma => kernel_rfl) (by simp) ?_
    refine AllReadyH.cons rfl (fun K hK => ?_) AllReadyH.nil
    go_simp
    refine (HS0.out _).mono ?_
    rintro e q20 ⟨rfl, hbb⟩
    have hHeld20 : (fun Wz : World => HoldN w g1 g23 g24 g27 g28 g11 (.slice (some ⟨g25, 0, none⟩) 1 1) v26 Wz) q20 := hHeld19.later hbb
    clear hbb
    go_simp
    refine hK.out _ _ hHeld20 (fun hHeld2 => ?_)
    clear hK K hHeld2
    try simp only [Act.put, List.getElem_toArray, List.getElem_cons_succ, List.getElem_cons_zero, List.setIfInBounds_toArray, List.set_cons_zero, List.set_cons_succ]
    refine wpAnyH_take (i := 137) (v := .bool true) rfl (by as_aux_lemma => kernel_rfl) (by as_aux_lemma => kernel_rfl) (by as_aux_lemma => kernel_rfl) (fun _ _ _ h => h) (Or.inl ⟨by as_aux_lemma => kernel_rfl, ?_⟩) (by assumption) ?_
    case refine_1 => (intro Wz hSw; go_simp; try with_reducible rfl)
    try simp only [Act.put, List.getElem_toArray, List.getElem_cons_succ, List.getElem_cons_zero, List.setIfInBounds_toArray, List.set_cons_zero, List.set_cons_succ]
    refine wpAnyH_take (i := 138) (v := .bool true) rfl (by as_aux_lemma => kernel_rfl) (by as_aux_lemma => kernel_rfl) (by as_aux_lemma => kernel_rfl) (fun _ _ _ h => h) (Or.inl ⟨by as_aux_lemma => kernel_rfl, ?_⟩) (by assumption) ?_
    case refine_1 => (intro Wz hSw; go_simp; try with_reducible rfl)
    try simp only [Act.put, List.getElem_toArray, List.getElem_cons_succ, List.getElem_cons_zero, List.setIfInBounds_toArray, List.set_cons_zero, List.set_cons_succ]
    refine wpAnyH_take (i := 139) (v := .slice (some ⟨g11, 0, none⟩) 2 c11) rfl (by as_aux_lemma => kernel_rfl) (by as_aux_lemma => kernel_rfl) (by as_aux_lemma => kernel_rfl) (fun _ _ _ h => h) (Or.inl ⟨by as_aux_lemma => kernel_rfl, ?_⟩) (by assumption) ?_
    case refine_1 => (intro Wz hSw; go_simp; try with_reducible rfl)
    try simp only [Act.put, List.getElem_toArray, List.getElem_cons_succ, List.getElem_cons_zero, List.setIfInBounds_toArray, List.set_cons_zero, List.set_cons_succ]
    refine wpAnyH_take (i := 140) (v := .pointer (some ⟨g11, 2, none⟩)) rfl (by as_aux_lemma => kernel_rfl) (by as_aux_lemma => kernel_rfl) (by as_aux_lemma => kernel_rfl) (fun _ _ _ h => h) (Or.inl ⟨by as_aux_lemma => kernel_rfl, ?_⟩) (by assumption) ?_
    case refine_1 => (intro Wz hSw; go_simp; try with_reducible rfl)
    try simp only [Act.put, List.getElem_toArray, List.getElem_cons_succ, List.getElem_cons_zero, List.setIfInBounds_toArray, List.set_cons_zero, List.set_cons_succ]
    refine wpAnyH_take (i := 141) (v := .agg #[.bool true, .string ⟨#[98]⟩]) rfl (by as_aux_lemma => kernel_rfl) (by as_aux_lemma => kernel_rfl) (by as_aux_lemma => kernel_rfl) (fun _ _ _ h => h) (Or.inl ⟨by as_aux_lemma => kernel_rfl, ?_⟩) (by assumption) ?_
    case refine_1 => (intro Wz hSw; have u := hSw.t11.c2; have u2 := hSw.t11.c3; go_simp; try with_reducible rfl)
    try simp only [Act.put, List.getElem_toArray, List.getElem_cons_succ, List.getElem_cons_zero, List.setIfInBounds_toArray, List.set_cons_zero, List.set_cons_succ]
    refine wpAnyH_take (i := 142) (v := .slice (some ⟨g11, 0, none⟩) 2 c11) rfl (by as_aux_lemma => kernel_rfl) (by as_aux_lemma => kernel_rfl) (by as_aux_lemma => kernel_rfl) (fun _ _ _ h => h) (Or.inl ⟨by as_aux_lemma => kernel_rfl, ?_⟩) (by assumption) ?_
    case refine_1 => (intro Wz hSw; go_simp; try with_reducible rfl)
    try simp only [Act.put, List.getElem_toArray, List.getElem_cons_succ, List.getElem_cons_zero, List.setIfInBounds_toArray, List.set_cons_zero, List.set_cons_succ]
    refine wpAnyH_take (i := 143) (v := .pointer (some ⟨g11, 2, none⟩)) rfl (by as_aux_lemma => kernel_rfl) (by as_aux_lemma => kernel_rfl) (by as_aux_lemma => kernel_rfl) (fun _ _ _ h => h) (Or.inl ⟨by as_aux_lemma => kernel_rfl, ?_⟩) (by assumption) ?_
    case refine_1 => (intro Wz hSw; go_simp; try with_reducible rfl)
    try simp only [Act.put, List.getElem_toArray, List.getElem_cons_succ, List.getElem_cons_zero, List.setIfInBounds_toArray, List.set_cons_zero, List.set_cons_succ]
    refine wpAnyH_take (i := 144) (v := .agg #[.bool true, .string ⟨#[98]⟩]) rfl (by as_aux_lemma => kernel_rfl) (by as_aux_lemma => kernel_rfl) (by as_aux_lemma => kernel_rfl) (fun _ _ _ h => h) (Or.inl ⟨by as_aux_lemma => kernel_rfl, ?_⟩) (by assumption) ?_
    case refine_1 => (intro Wz hSw; have u := hSw.t11.c2; have u2 := hSw.t11.c3; go_simp; try with_reducible rfl)
    try simp only [Act.put, List.getElem_toArray, List.getElem_cons_succ, List.getElem_cons_zero, List.setIfInBounds_toArray, List.set_cons_zero, List.set_cons_succ]
    refine wpAnyH_ready (rs := [145]) (by as_aux_lemma => kernel_rfl) (by simp) ?_
    refine AllReadyH.cons rfl (fun K hK => ?_) AllReadyH.nil
    go_simp
    refine (HS1.out _).mono ?_
    rintro e q21 ⟨rfl, hbb⟩
    have hHeld21 : (fun Wz : World => HoldN w g1 g23 g24 g27 g28 g11 (.slice (some ⟨g25, 0, none⟩) 1 1) v26 Wz) q21 := hHeld20.later hbb
    clear hbb
    go_simp
    refine hK.out _ _ hHeld21 (fun hHeld2 => ?_)
    clear hK K hHeld2
    try simp only [Act.put, List.getElem_toArray, List.getElem_cons_succ, List.getElem_cons_zero, List.setIfInBounds_toArray, List.set_cons_zero, List.set_cons_succ]
    refine wpAnyH_take (i := 146) (v := .bool true) rfl (by as_aux_lemma => kernel_rfl) (by as_aux_lemma => kernel_rfl) (by as_aux_lemma => kernel_rfl) (fun _ _ _ h => h) (Or.inl ⟨by as_aux_lemma => kernel_rfl, ?_⟩) (by assumption) ?_
    case refine_1 => (intro Wz hSw; go_simp; try with_reducible rfl)
    try simp only [Act.put, List.getElem_toArray, List.getElem_cons_succ, List.getElem_cons_zero, List.setIfInBounds_toArray, List.set_cons_zero, List.set_cons_succ]
    refine wpAnyH_take (i := 147) (v := .bool true) rfl (by as_aux_lemma => kernel_rfl) (by as_aux_lemma => kernel_rfl) (by as_aux_lemma => kernel_rfl) (fun _ _ _ h => h) (Or.inl ⟨by as_aux_lemma => kernel_rfl, ?_⟩) (by assumption) ?_
    case refine_1 => (intro Wz hSw; go_simp; try with_reducible rfl)
    try simp only [Act.put, List.getElem_toArray, List.getElem_cons_succ, List.getElem_cons_zero, List.setIfInBounds_toArray, List.set_cons_zero, List.set_cons_succ]
    refine wpAnyH_take (i := 148) (v := .bool true) rfl (by as_aux_lemma => kernel_rfl) (by as_aux_lemma => kernel_rfl) (by as_aux_lemma => kernel_rfl) (fun _ _ _ h => h) (Or.inl ⟨by as_aux_lemma => kernel_rfl, ?_⟩) (by assumption) ?_
    case refine_1 => (intro Wz hSw; go_simp; try with_reducible rfl)
    try simp only [Act.put, List.getElem_toArray, List.getElem_cons_succ, List.getElem_cons_zero, List.setIfInBounds_toArray, List.set_cons_zero, List.set_cons_succ]
    refine wpAnyH_take (i := 149) (v := .slice (some ⟨g11, 0, none⟩) 2 c11) rfl (by as_aux_lemma => kernel_rfl) (by as_aux_lemma => kernel_rfl) (by as_aux_lemma => kernel_rfl) (fun _ _ _ h => h) (Or.inl ⟨by as_aux_lemma => kernel_rfl, ?_⟩) (by assumption) ?_
    case refine_1 => (intro Wz hSw; go_simp; try with_reducible rfl)
    try simp only [Act.put, List.getElem_toArray, List.getElem_cons_succ, List.getElem_cons_zero, List.setIfInBounds_toArray, List.set_cons_zero, List.set_cons_succ]
    refine wpAnyH_take (i := 150) (v := .pointer (some ⟨g11, 2, none⟩)) rfl (by as_aux_lemma => kernel_rfl) (by as_aux_lemma => kernel_rfl) (by as_aux_lemma => kernel_rfl) (fun _ _ _ h => h) (Or.inl ⟨by as_aux_lemma => kernel_rfl, ?_⟩) (by assumption) ?_
    case refine_1 => (intro Wz hSw; go_simp; try with_reducible rfl)
    try simp only [Act.put, List.getElem_toArray, List.getElem_cons_succ, List.getElem_cons_zero, List.setIfInBounds_toArray, List.set_cons_zero, List.set_cons_succ]
    refine wpAnyH_take (i := 151) (v := .agg #[.bool true, .string ⟨#[98]⟩]) rfl (by as_aux_lemma => kernel_rfl) (by as_aux_lemma => kernel_rfl) (by as_aux_lemma => kernel_rfl) (fun _ _ _ h => h) (Or.inl ⟨by as_aux_lemma => kernel_rfl, ?_⟩) (by assumption) ?_
    case refine_1 => (intro Wz hSw; have u := hSw.t11.c2; have u2 := hSw.t11.c3; go_simp; try with_reducible rfl)
    try simp only [Act.put, List.getElem_toArray, List.getElem_cons_succ, List.getElem_cons_zero, List.setIfInBounds_toArray, List.set_cons_zero, List.set_cons_succ]
    refine wpAnyH_take (i := 152) (v := .agg #[.bool false, .string ⟨#[98]⟩]) rfl (by as_aux_lemma => kernel_rfl) (by as_aux_lemma => kernel_rfl) (by as_aux_lemma => kernel_rfl) (fun _ _ _ h => h) (Or.inl ⟨by as_aux_lemma => kernel_rfl, ?_⟩) (by assumption) ?_
    case refine_1 => (intro Wz hSw; go_simp; try with_reducible rfl)
    try simp only [Act.put, List.getElem_toArray, List.getElem_cons_succ, List.getElem_cons_zero, List.setIfInBounds_toArray, List.set_cons_zero, List.set_cons_succ]
    refine wpAnyH_ready (rs := [153]) (by as_aux_lemma => kernel_rfl) (by simp) ?_
    refine AllReadyH.cons rfl (fun K hK => ?_) AllReadyH.nil
    go_simp
    refine (HWk.out _).mono ?_
    rintro e q22 ⟨rfl, hbb⟩
    have hHeld22 : (fun Wz : World => HoldN w g1 g23 g24 g27 g28 g11 (.slice (some ⟨g25, 0, none⟩) 1 1) v26 Wz) q22 := hHeld21.later hbb
    clear hbb
    go_simp
    refine hK.out _ _ hHeld22 (fun hHeld2 => ?_)
    clear hK K hHeld2
    try simp only [Act.put, List.getElem_toArray, List.getElem_cons_succ, List.getElem_cons_zero, List.setIfInBounds_toArray, List.set_cons_zero, List.set_cons_succ]
    refine wpAnyH_take (i := 154) (v := .bool true) rfl (by as_aux_lemma => kernel_rfl) (by as_aux_lemma => kernel_rfl) (by as_aux_lemma => kernel_rfl) (fun _ _ _ h => h) (Or.inl ⟨by as_aux_lemma => kernel_rfl, ?_⟩) (by assumption) ?_
    case refine_1 => (intro Wz hSw; go_simp; try with_reducible rfl)
    try simp only [Act.put, List.getElem_toArray, List.getElem_cons_succ, List.getElem_cons_zero, List.setIfInBounds_toArray, List.set_cons_zero, List.set_cons_succ]
    refine wpAnyH_take (i := 155) (v := ?_) rfl (by as_aux_lemma => kernel_rfl) (by as_aux_lemma => kernel_rfl) (by as_aux_lemma => kernel_rfl) (fun _ _ _ h => h) (Or.inl ⟨by as_aux_lemma => kernel_rfl, ?_⟩) (by assumption) ?_
    case refine_2 => (intro Wz hSw; go_simp; try with_reducible rfl)
    try simp only [Act.put, List.getElem_toArray, List.getElem_cons_succ, List.getElem_cons_zero, List.setIfInBounds_toArray, List.set_cons_zero]
    refine wpAnyH_done (by kernel_rfl) ?_ _
    go_wp2_with fail
    go_ret
    exact ⟨rfl, hHeld22.bl⟩
  · skip
    go_simp
    refine (HQ.out _).mono ?_
    rintro e p8 ⟨rfl, hbb⟩
    have hHeld8 : (fun Wz : World => HoldN w g1 g23 g24 g27 g28 g11 (.slice (some ⟨g25, 0, none⟩) 1 1) v26 Wz) p8 := hHeld7.later hbb
    clear hbb
    go_simp
    refine hK.out _ _ hHeld8 (fun hHeld2 => ?_)
    clear hK K hHeld2
    try simp only [Act.put, List.getElem_toArray, List.getElem_cons_succ, List.getElem_cons_zero, List.setIfInBounds_toArray, List.set_cons_zero, List.set_cons_succ]
    have hfq := isFlds_litN p8 [(nINM, [42])] #[.string ⟨#[73, 102, 45, 78, 111, 110, 101, 45, 77, 97, 116, 99, 104]⟩, .string ⟨#[42]⟩] rfl (by decide) rfl
    refine wpAnyH_ready (rs := [106]) (by as_aux_lemma => kernel_rfl) (by simp) ?_
    refine AllReadyH.cons rfl (fun K hK => ?_) AllReadyH.nil
    go_simp
    have hbb := below_allocW p8 (Obj.cells #[.string ⟨#[73, 102, 45, 78, 111, 110, 101, 45, 77, 97, 116, 99, 104]⟩, .string ⟨#[42]⟩] 31)
    have hHeld9 : (fun Wz : World => HoldN w g1 g23 g24 g27 g28 g11 (.slice (some ⟨g25, 0, none⟩) 1 1) v26 Wz) (p8.alloc (Obj.cells #[.string ⟨#[73, 102, 45, 78, 111, 110, 101, 45, 77, 97, 116, 99, 104]⟩, .string ⟨#[42]⟩] 31)) := hHeld8.later hbb
    clear hbb
    refine hK.out _ _ hHeld9 (fun hHeld2 => ?_)
    clear hK K hHeld2
    try simp only [Act.put, List.getElem_toArray, List.getElem_cons_succ, List.getElem_cons_zero, List.setIfInBounds_toArray, List.set_cons_zero, List.set_cons_succ]
    refine wpAnyH_ready (rs := [108]) (by as_aux_lemma => kernel_rfl) (by simp) ?_
    refine AllReadyH.cons rfl (fun K hK => ?_) AllReadyH.nil
    go_simp
    refine (HU4b.out _ _ hHeld9.nm hfq).mono ?_
    rintro e q10 ⟨rfl, hbb⟩
    have hHeld10 : (fun Wz : World => HoldN w g1 g23 g24 g27 g28 g11 (.slice (some ⟨g25, 0, none⟩) 1 1) v26 Wz) q10 := hHeld9.later hbb
    clear hfq
    clear hbb
    go_simp
    refine hK.out _ _ hHeld10 (fun hHeld2 => ?_)
    clear hK K hHeld2
    try simp only [Act.put, List.getElem_toArray, List.getElem_cons_succ, List.getElem_cons_zero, List.setIfInBounds_toArray, List.set_cons_zero, List.set_cons_succ]
    refine wpAnyH_take (i := 109) (v := .bool true) rfl (by as_aux_lemma => kernel_rfl) (by as_aux_lemma => kernel_rfl) (by as_aux_lemma => kernel_rfl) (fun _ _ _ h => h) (Or.inl ⟨by as_aux_lemma => kernel_rfl, ?_⟩) (by assumption) ?_
    case refine_1 => (intro Wz hSw; go_simp; try with_reducible rfl)
    try simp only [Act.put, List.getElem_toArray, List.getElem_cons_succ, List.getElem_cons_zero, List.setIfInBounds_toArray, List.set_cons_zero, List.set_cons_succ]
    refine wpAnyH_take (i := 110) (v := .bool true) rfl (by as_aux_lemma => kernel_rfl) (by as_aux_lemma => kernel_rfl) (by as_aux_lemma => kernel_rfl) (fun _ _ _ h => h) (Or.inl ⟨by as_aux_lemma => kernel_rfl, ?_⟩) (by assumption) ?_
    case refine_1 => (intro Wz hSw; go_simp; try with_reducible rfl)
    try simp only [Act.put, List.getElem_toArray, List.getElem_cons_succ, List.getElem_cons_zero, List.setIfInBounds_toArray, List.set_cons_zero, List.set_cons_succ]
    refine wpAnyH_take (i := 113) (v := .agg #[.bool false, .string ⟨#[]⟩, .bool false, .int .i64 784111777, .bool true]) rfl (by as_aux_lemma => kernel_rfl) (by as_aux_lemma => kernel_rfl) (by as_aux_lemma => kernel_rfl) (fun _ _ _ h => h) (Or.inl ⟨by as_aux_lemma => kernel_rfl, ?_⟩) (by assumption) ?_
    case refine_1 => exact fun Wz hSw => exec_loadE _ _ (by rfl) _ _ #[.bool false, .string ⟨#[]⟩, .bool false, .int .i64 784111777, .bool true] (0, 0) _ (by rfl) hSw.n27 Tryz.underlying89 rfl (by kernel_rfl)
    try simp only [Act.put, List.getElem_toArray, List.getElem_cons_succ, List.getElem_cons_zero, List.setIfInBounds_toArray, List.set_cons_zero, List.set_cons_succ]
    refine wpAnyH_ready (rs := [111]) (by as_aux_lemma => kernel_rfl) (by simp) ?_
    refine AllReadyH.cons rfl (fun K hK => ?_) AllReadyH.nil
    go_simp
    refine (HO.out _ _ _).mono ?_
    rintro e q11 ⟨rfl, hbb⟩
    have hHeld11 : (fun Wz : World => HoldN w g1 g23 g24 g27 g28 g11 (.slice (some ⟨g25, 0, none⟩) 1 1) v26 Wz) q11 := hHeld10.later hbb
    clear hbb
    go_simp
    refine hK.out _ _ hHeld11 (fun hHeld2 => ?_)
    clear hK K hHeld2
    try simp only [Act.put, List.getElem_toArray, List.getElem_cons_succ, List.getElem_cons_zero, List.setIfInBounds_toArray, List.set_cons_zero, List.set_cons_succ]
    refine wpAnyH_ready (rs := [112]) (by as_aux_lemma => kernel_rfl) (by simp) ?_
    refine AllReadyH.cons rfl (fun K hK => ?_) AllReadyH.nil
    go_simp
    have hbb := below_allocW q11 (Obj.cells #[.string ⟨#[73, 102, 45, 78, 111, 110, 101, 45, 77, 97, 116, 99, 104]⟩, .string ⟨#[42]⟩] 31)
    have hHeld12 : (fun Wz : World => HoldN w g1 g23 g24 g27 g28 g11 (.slice (some ⟨g25, 0, none⟩) 1 1) v26 Wz) (q11.alloc (Obj.cells #[.string ⟨#[73, 102, 45, 78, 111, 110, 101, 45, 77, 97, 116, 99, 104]⟩, .string ⟨#[42]⟩] 31)) := hHeld11.later hbb
    clear hbb
    refine hK.out _ _ hHeld12 (fun hHeld2 => ?_)
    clear hK K hHeld2
    try simp only [Act.put, List.getElem_toArray, List.getElem_cons_succ, List.getElem_cons_zero, List.setIfInBounds_toArray, List.set_cons_zero, List.set_cons_succ]
    refine wpAnyH_ready (rs := [114]) (by as_aux_lemma => kernel_rfl) (by simp) ?_
    refine AllReadyH.cons rfl (fun K hK => ?_) AllReadyH.nil
    go_simp
    refine (HU5.out q11 hHeld11.nm).mono ?_
    rintro e q13 ⟨rfl, hbb⟩
    have hHeld13 : (fun Wz : World => HoldN w g1 g23 g24 g27 g28 g11 (.slice (some ⟨g25, 0, none⟩) 1 1) v26 Wz) q13 := hHeld11.later hbb
    clear hbb
    go_simp
    refine hK.out _ _ hHeld13 (fun hHeld2 => ?_)
    clear hK K hHeld2
    try simp only [Act.put, List.getElem_toArray, List.getElem_cons_succ, List.getElem_cons_zero, List.setIfInBounds_toArray, List.set_cons_zero, List.set_cons_succ]
    refine wpAnyH_take (i := 115) (v := .bool true) rfl (by as_aux_lemma => kernel_rfl) (by as_aux_lemma => kernel_rfl) (by as_aux_lemma => kernel_rfl) (fun _ _ _ h => h) (Or.inl ⟨by as_aux_lemma => kernel_rfl, ?_⟩) (by assumption) ?_
    case refine_1 => (intro Wz hSw; go_simp; try with_reducible rfl)
    try simp only [Act.put, List.getElem_toArray, List.getElem_cons_succ, List.getElem_cons_zero, List.setIfInBounds_toArray, List.set_cons_zero, List.set_cons_succ]
    refine wpAnyH_take (i := 116) (v := .bool true) rfl (by as_aux_lemma => kernel_rfl) (by as_aux_lemma => kernel_rfl) (by as_aux_lemma => kernel_rfl) (fun _ _ _ h => h) (Or.inl ⟨by as_aux_lemma => kernel_rfl, ?_⟩) (by assumption) ?_
    case refine_1 => (intro Wz hSw; go_simp; try with_reducible rfl)
    try simp only [Act.put, List.getElem_toArray, List.getElem_cons_succ, List.getElem_cons_zero, List.setIfInBounds_toArray, List.set_cons_zero, List.set_cons_succ]
    refine wpAnyH_take (i := 117) (v := .agg #[.bool false, .string ⟨#[97]⟩, .bool true, .int .i64 784111777, .bool true]) rfl (by as_aux_lemma => kernel_rfl) (by as_aux_lemma => kernel_rfl) (by as_aux_lemma => kernel_rfl) (fun _ _ _ h => h) (Or.inl ⟨by as_aux_lemma => kernel_rfl, ?_⟩) (by assumption) ?_
    case refine_1 => exact fun Wz hSw => exec_loadE _ _ (by rfl) _ _ #[.bool false, .string ⟨#[97]⟩, .bool true, .int .i64 784111777, .bool true] (0, 0) _ (by rfl) hSw.n23 Tryz.underlying89 rfl (by kernel_rfl)
    try simp only [Act.put, List.getElem_toArray, List.getElem_cons_succ, List.getElem_cons_zero, List.setIfInBounds_toArray, List.set_cons_zero, List.set_cons_succ]
    refine wpAnyH_ready (rs := [118]) (by as_aux_lemma => kernel_rfl) (by simp) ?_
    refine AllReadyH.cons rfl (fun K hK => ?_) AllReadyH.nil
    go_simp
    refine (HU6.out _ hHeld13.nm).mono ?_
    rintro e q14 ⟨rfl, hbb⟩
    have hHeld14 : (fun Wz : World => HoldN w g1 g23 g24 g27 g28 g11 (.slice (some ⟨g25, 0, none⟩) 1 1) v26 Wz) q14 := hHeld13.later hbb
    clear hbb
    go_simp
    refine hK.out _ _ hHeld14 (fun hHeld2 => ?_)
    clear hK K hHeld2
    try simp only [Act.put, List.getElem_toArray, List.getElem_cons_succ, List.getElem_cons_zero, List.setIfInBounds_toArray, List.set_cons_zero, List.set_cons_succ]
    refine wpAnyH_take (i := 119) (v := .bool true) rfl (by as_aux_lemma => kernel_rfl) (by as_aux_lemma => kernel_rfl) (by as_aux_lemma => kernel_rfl) (fun _ _ _ h => h) (Or.inl ⟨by as_aux_lemma => kernel_rfl, ?_⟩) (by assumption) ?_
    case refine_1 => (intro Wz hSw; go_simp; try with_reducible rfl)
    try simp only [Act.put, List.getElem_toArray, List.getElem_cons_succ, List.getElem_cons_zero, List.setIfInBounds_toArray, List.set_cons_zero, List.set_cons_succ]
    refine wpAnyH_take (i := 120) (v := .bool true) rfl (by as_aux_lemma => kernel_rfl) (by as_aux_lemma => kernel_rfl) (by as_aux_lemma => kernel_rfl) (fun _ _ _ h => h) (Or.inl ⟨by as_aux_lemma => kernel_rfl, ?_⟩) (by assumption) ?_
    case refine_1 => (intro Wz hSw; go_simp; try with_reducible rfl)
    try simp only [Act.put, List.getElem_toArray, List.getElem_cons_succ, List.getElem_cons_zero, List.setIfInBounds_toArray, List.set_cons_zero, List.set_cons_succ]
    refine wpAnyH_take (i := 121) (v := .bool true) rfl (by as_aux_lemma => kernel_rfl) (by as_aux_lemma => kernel_rfl) (by as_aux_lemma => kernel_rfl) (fun _ _ _ h => h) (Or.inl ⟨by as_aux_lemma => kernel_rfl, ?_⟩) (by assumption) ?_
    case refine_1 => (intro Wz hSw; go_simp; try with_reducible rfl)
    try simp only [Act.put, List.getElem_toArray, List.getElem_cons_succ, List.getElem_cons_zero, List.setIfInBounds_toArray, List.set_cons_zero, List.set_cons_succ]
    refine wpAnyH_take (i := 122) (v := v26) rfl (by as_aux_lemma => kernel_rfl) (by as_aux_lemma => kernel_rfl) (by as_aux_lemma => kernel_rfl) (fun _ _ _ h => h) (Or.inl ⟨by as_aux_lemma => kernel_rfl, ?_⟩) (by assumption) ?_
    case refine_1 => (intro Wz hSw; go_simp; try with_reducible rfl)
    try simp only [Act.put, List.getElem_toArray, List.getElem_cons_succ, List.getElem_cons_zero, List.setIfInBounds_toArray, List.set_cons_zero, List.set_cons_succ]
    refine wpAnyH_ready (rs := [123]) (by as_aux_lemma => kernel_rfl) (by simp) ?_
    refine AllReadyH.cons rfl (fun K hK => ?_) AllReadyH.nil
    go_simp
    refine (HO.out _ _ _).mono ?_
    rintro e q15 ⟨rfl, hbb⟩
    have hHeld15 : (fun Wz : World => HoldN w g1 g23 g24 g27 g28 g11 (.slice (some ⟨g25, 0, none⟩) 1 1) v26 Wz) q15 := hHeld14.later hbb
    clear hbb
    go_simp
    refine hK.out _ _ hHeld15 (fun hHeld2 => ?_)
    clear hK K hHeld2
    try simp only [Act.put, List.getElem_toArray, List.getElem_cons_succ, List.getElem_cons_zero, List.setIfInBounds_toArray, List.set_cons_zero, List.set_cons_succ]
    refine wpAnyH_ready (rs := [124]) (by as_aux_lemma => kernel_rfl) (by simp) ?_
    refine AllReadyH.cons rfl (fun K hK => ?_) AllReadyH.nil
    go_simp
    refine (HO.out _ _ _).mono ?_
    rintro e q16 ⟨rfl, hbb⟩
    have hHeld16 : (fun Wz : World => HoldN w g1 g23 g24 g27 g28 g11 (.slice (some ⟨g25, 0, none⟩) 1 1) v26 Wz) q16 := hHeld15.later hbb
    clear hbb
    go_simp
    refine hK.out _ _ hHeld16 (fun hHeld2 => ?_)
    clear hK K hHeld2
    try simp only [Act.put, List.getElem_toArray, List.getElem_cons_succ, List.getElem_cons_zero, List.setIfInBounds_toArray, List.set_cons_zero, List.set_cons_succ]
    refine wpAnyH_ready (rs := [125]) (by as_aux_lemma => kernel_rfl) (by simp) ?_
    refine AllReadyH.cons rfl (fun K hK => ?_) AllReadyH.nil
    go_simp
    refine (HO.out _ _ _).mono ?_
    rintro e q17 ⟨rfl, hbb⟩
    have hHeld17 : (fun Wz : World => HoldN w g1 g23 g24 g27 g28 g11 (.slice (some ⟨g25, 0, none⟩) 1 1) v26 Wz) q17 := hHeld16.later hbb
    clear hbb
    go_simp
    refine hK.out _ _ hHeld17 (fun hHeld2 => ?_)
    clear hK K hHeld2
    try simp only [Act.put, List.getElem_toArray, List.getElem_cons_succ, List.getElem_cons_zero, List.setIfInBounds_toArray, List.set_cons_zero, List.set_cons_succ]
    refine wpAnyH_ready (rs := [126]) (by as_aux_lemma => kernel_rfl) (by simp) ?_
    refine AllReadyH.cons rfl (fun K hK => ?_) AllReadyH.nil
    go_simp
    have hbb := below_allocW q17 (Obj.cells #[.string ⟨#[65]⟩, .string ⟨#[49]⟩, .string ⟨#[73, 102, 45, 78, 111, 110, 101, 45, 77, 97, 116, 99, 104]⟩, .string ⟨#[34, 97, 34]⟩, .string ⟨#[73, 102, 45, 77, 111, 100, 105, 102, 105, 101, 100, 45, 83, 105, 110, 99, 101]⟩, .string ⟨#[83, 117, 110, 44, 32, 48, 54, 32, 78, 111, 118, 32, 49, 57, 57, 52, 32, 48, 56, 58, 52, 57, 58, 51, 55, 32, 71, 77, 84]⟩] 31)
    have hHeld18 : (fun Wz : World => HoldN w g1 g23 g24 g27 g28 g11 (.slice (some ⟨g25, 0, none⟩) 1 1) v26 Wz) (q17.alloc (Obj.cells #[.string ⟨#[65]⟩, .string ⟨#[49]⟩, .string ⟨#[73, 102, 45, 78, 111, 110, 101, 45, 77, 97, 116, 99, 104]⟩, .string ⟨#[34, 97, 34]⟩, .string ⟨#[73, 102, 45, 77, 111, 100, 105, 102, 105, 101, 100, 45, 83, 105, 110, 99, 101]⟩, .string ⟨#[83, 117, 110, 44, 32, 48, 54, 32, 78, 111, 118, 32, 49, 57, 57, 52, 32, 48, 56, 58, 52, 57, 58, 51, 55, 32, 71, 77, 84]⟩] 31)) := hHeld17.later hbb
    clear hbb
    refine hK.out _ _ hHeld18 (fun hHeld2 => ?_)
    clear hK K hHeld2
    try simp only [Act.put, List.getElem_toArray, List.getElem_cons_succ, List.getElem_cons_zero, List.setIfInBounds_toArray, List.set_cons_zero, List.set_cons_succ]
    refine wpAnyH_ready (rs := [127]) (by as_aux_lemma => kernel_rfl) (by simp) ?_
    refine AllReadyH.cons rfl (fun K hK => ?_) AllReadyH.nil
    go_simp
    refine (HSm.out v26 q17 hHeld18.f26).mono ?_
    rintro e q19 ⟨rfl, hbb⟩
    have hHeld19 : (fun Wz : World => HoldN w g1 g23 g24 g27 g28 g11 (.slice (some ⟨g25, 0, none⟩) 1 1) v26 Wz) q19 := hHeld17.later hbb
    clear hbb
    go_simp
    refine hK.out _ _ hHeld19 (fun hHeld2 => ?_)
    clear hK K hHeld2
    try simp only [Act.put, List.getElem_toArray, List.getElem_cons_succ, List.getElem_cons_zero, List.setIfInBounds_toArray, List.set_cons_zero, List.set_cons_succ]
    refine wpAnyH_take (i := 128) (v := .bool true) rfl (by as_aux_lemma => kernel_rfl) (by as_aux_lemma => kernel_rfl) (by as_aux_lemma => kernel_rfl) (fun _ _ _ h => h) (Or.inl ⟨by as_aux_lemma => kernel_rfl, ?_⟩) (by assumption) ?_
    case refine_1 => (intro Wz hSw; go_simp; try with_reducible rfl)
    try simp only [Act.put, List.getElem_toArray, List.getElem_cons_succ, List.getElem_cons_zero, List.setIfInBounds_toArray, List.set_cons_zero, List.set_cons_succ]
    refine wpAnyH_take (i := 129) (v := .bool true) rfl (by as_aux_lemma => kernel_rfl) (by as_aux_lemma => kernel_rfl) (by as_aux_lemma => kernel_rfl) (fun _ _ _ h => h) (Or.inl ⟨by as_aux_lemma => kernel_rfl, ?_⟩) (by assumption) ?_
    case refine_1 => (intro Wz hSw; go_simp; try with_reducible rfl)
    try simp only [Act.put, List.getElem_toArray, List.getElem_cons_succ, List.getElem_cons_zero, List.setIfInBounds_toArray, List.set_cons_zero, List.set_cons_succ]
    refine wpAnyH_take (i := 130) (v := .slice (some ⟨g11, 0, none⟩) 2 c11) rfl (by as_aux_lemma => kernel_rfl) (by as_aux_lemma => kernel_rfl) (by as_aux_lemma => kernel_rfl) (fun _ _ _ h => h) (Or.inl ⟨by as_aux_lemma => kernel_rfl, ?_⟩) (by assumption) ?_
    case refine_1 => (intro Wz hSw; go_simp; try with_reducible rfl)
    try simp only [Act.put, List.getElem_toArray, List.getElem_cons_succ, List.getElem_cons_zero, List.setIfInBounds_toArray, List.set_cons_zero, List.set_cons_succ]
    refine wpAnyH_take (i := 131) (v := .pointer (some ⟨g11, 0, none⟩)) rfl (by as_aux_lemma => kernel_rfl) (by as_aux_lemma => kernel_rfl) (by as_aux_lemma => kernel_rfl) (fun _ _ _ h => h) (Or.inl ⟨by as_aux_lemma => kernel_rfl, ?_⟩) (by assumption) ?_
    case refine_1 => (intro Wz hSw; go_simp; try with_reducible rfl)
    try simp only [Act.put, List.getElem_toArray, List.getElem_cons_succ, List.getElem_cons_zero, List.setIfInBounds_toArray, List.set_cons_zero, List.set_cons_succ]
    refine wpAnyH_take (i := 132) (v := .agg #[.bool false, .string ⟨#[97]⟩]) rfl (by as_aux_lemma => kernel_rfl) (by as_aux_lemma => kernel_rfl) (by as_aux_lemma => kernel_rfl) (fun _ _ _ h => h) (Or.inl ⟨by as_aux_lemma => kernel_rfl, ?_⟩) (by assumption) ?_
    case refine_1 => (intro Wz hSw; have u := hSw.t11.c0; have u2 := hSw.t11.c1; go_simp; try with_reducible rfl)
    try simp only [Act.put, List.getElem_toArray, List.getElem_cons_succ, List.getElem_cons_zero, List.setIfInBounds_toArray, List.set_cons_zero, List.set_cons_succ]
    refine wpAnyH_take (i := 133) (v := .slice (some ⟨g11, 0, none⟩) 2 c11) rfl (by as_aux_lemma => kernel_rfl) (by as_aux_lemma => kernel_rfl) (by as_aux_lemma => kernel_rfl) (fun _ _ _ h => h) (Or.inl ⟨by as_aux_lemma => kernel_rfl, ?_⟩) (by assumption) ?_
    case refine_1 => (intro Wz hSw; go_simp; try with_reducible rfl)
    try simp only [Act.put, List.getElem_toArray, List.getElem_cons_succ, List.getElem_cons_zero, List.setIfInBounds_toArray, List.set_cons_zero, List.set_cons_succ]
    refine wpAnyH_take (i := 134) (v := .pointer (some ⟨g11, 0, none⟩)) rfl (by as_aux_lemma => kernel_rfl) (by as_aux_lemma => kernel_rfl) (by as_aux_lemma => kernel_rfl) (fun _ _ _ h => h) (Or.inl ⟨by as_aux_lemma => kernel_rfl, ?_⟩) (by assumption) ?_
    case refine_1 => (intro Wz hSw; go_simp; try with_reducible rfl)
    try simp only [Act.put, List.getElem_toArray, List.getElem_cons_succ, List.getElem_cons_zero, List.setIfInBounds_toArray, List.set_cons_zero, List.set_cons_succ]
    refine wpAnyH_take (i := 135) (v := .agg #[.bool false, .string ⟨#[97]⟩]) rfl (by as_aux_lemma => kernel_rfl) (by as_aux_lemma => kernel_rfl) (by as_aux_lemma => kernel_rfl) (fun _ _ _ h => h) (Or.inl ⟨by as_aux_lemma => kernel_rfl, ?_⟩) (by assumption) ?_
    case refine_1 => (intro Wz hSw; have u := hSw.t11.c0; have u2 := hSw.t11.c1; go_simp; try with_reducible rfl)
    try simp only [Act.put, List.getElem_toArray, List.getElem_cons_succ, List.getElem_cons_zero, List.setIfInBounds_toArray, List.set_cons_zero, List.set_cons_succ]
    refine wpAnyH_ready (rs := [136]) (by as_aux_lemma => kernel_rfl) (by simp) ?_
    refine AllReadyH.cons rfl (fun K hK => ?_) AllReadyH.nil
    go_simp
    refine (HS0.out _).mono ?_
    rintro e q20 ⟨rfl, hbb⟩
    have hHeld20 : (fun Wz : World => HoldN w g1 g23 g24 g27 g28 g11 (.slice (some ⟨g25, 0, none⟩) 1 1) v26 Wz) q20 := hHeld19.later hbb
    clear hbb
    go_simp
    refine hK.out _ _ hHeld20 (fun hHeld2 => ?_)
    clear hK K hHeld2
    try simp only [Act.put, List.getElem_toArray, List.getElem_cons_succ, List.getElem_cons_zero, List.setIfInBounds_toArray, List.set_cons_zero, List.set_cons_succ]
    refine wpAnyH_take (i := 137) (v := .bool true) rfl (by as_aux_lemma => kernel_rfl) (by as_aux_lemma => kernel_rfl) (by as_aux_lemma => kernel_rfl) (fun _ _ _ h => h) (Or.inl ⟨by as_aux_lemma => kernel_rfl, ?_⟩) (by assumption) ?_
    case refine_1 => (intro Wz hSw; go_simp; try with_reducible rfl)
    try simp only [Act.put, List.getElem_toArray, List.getElem_cons_succ, List.getElem_cons_zero, List.setIfInBounds_toArray, List.set_cons_zero, List.set_cons_succ]
    refine wpAnyH_take (i := 138) (v := .bool true) rfl (by as_aux_lemma => kernel_rfl) (by as_aux_lemma => kernel_rfl) (by as_aux_lemma => kernel_rfl) (fun _ _ _ h => h) (Or.inl ⟨by as_aux_lemma => kernel_rfl, ?_⟩) (by assumption) ?_
    case refine_1 => (intro Wz hSw; go_simp; try with_reducible rfl)
    try simp only [Act.put, List.getElem_toArray, List.getElem_cons_succ, List.getElem_cons_zero, List.setIfInBounds_toArray, List.set_cons_zero, List.set_cons_succ]
    refine wpAnyH_take (i := 139) (v := .slice (some ⟨g11, 0, none⟩) 2 c11) rfl (by as_aux_lemma => kernel_rfl) (by as_aux_lemma => kernel_rfl) (by as_aux_lemma => kernel_rfl) (fun _ _ _ h => h) (Or.inl ⟨by as_aux_lemma => kernel_rfl, ?_⟩) (by assumption) ?_
    case refine_1 => (intro Wz hSw; go_simp; try with_reducible rfl)
    try simp only [Act.put, List.getElem_toArray, List.getElem_cons_succ, List.getElem_cons_zero, List.setIfInBounds_toArray, List.set_cons_zero, List.set_cons_succ]
    refine wpAnyH_take (i := 140) (v := .pointer (some ⟨g11, 2, none⟩)) rfl (by as_aux_lemma => kernel_rfl) (by as_aux_lemma => kernel_rfl) (by as_aux_lemma => kernel_rfl) (fun _ _ _ h => h) (Or.inl ⟨by as_aux_lemma => kernel_rfl, ?_⟩) (by assumption) ?_
    case refine_1 => (intro Wz hSw; go_simp; try with_reducible rfl)
    try simp only [Act.put, List.getElem_toArray, List.getElem_cons_succ, List.getElem_cons_zero, List.setIfInBounds_toArray, List.set_cons_zero, List.set_cons_succ]
    refine wpAnyH_take (i := 141) (v := .agg #[.bool true, .string ⟨#[98]⟩]) rfl (by as_aux_lemma => kernel_rfl) (by as_aux_lemma => kernel_rfl) (by as_aux_lemma => kernel_rfl) (fun _ _ _ h => h) (Or.inl ⟨by as_aux_lemma => kernel_rfl, ?_⟩) (by assumption) ?_
    case refine_1 => (intro Wz hSw; have u := hSw.t11.c2; have u2 := hSw.t11.c3; go_simp; try with_reducible rfl)
    try simp only [Act.put, List.getElem_toArray, List.getElem_cons_succ, List.getElem_cons_zero, List.setIfInBounds_toArray, List.set_cons_zero, List.set_cons_succ]
    refine wpAnyH_take (i := 142) (v := .slice (some ⟨g11, 0, none⟩) 2 c11) rfl (by as_aux_lemma => kernel_rfl) (by as_aux_lemma => kernel_rfl) (by as_aux_lemma => kernel_rfl) (fun _ _ _ h => h) (Or.inl ⟨by as_aux_lemma => kernel_rfl, ?_⟩) (by assumption) ?_
    case refine_1 => (intro Wz hSw; go_simp; try with_reducible rfl)
    try simp only [Act.put, List.getElem_toArray, List.getElem_cons_succ, List.getElem_cons_zero, List.setIfInBounds_toArray, List.set_cons_zero, List.set_cons_succ]
    refine wpAnyH_take (i := 143) (v := .pointer (some ⟨g11, 2, none⟩)) rfl (by as_aux_lemma => kernel_rfl) (by as_aux_lemma => kernel_rfl) (by as_aux_lemma => kernel_rfl) (fun _ _ _ h => h) (Or.inl ⟨by as_aux_lemma => kernel_rfl, ?_⟩) (by assumption) ?_
    case refine_1 => (intro Wz hSw; go_simp; try with_reducible rfl)
    try simp only [Act.put, List.getElem_toArray, List.getElem_cons_succ, List.getElem_cons_zero, List.setIfInBounds_toArray, List.set_cons_zero, List.set_cons_succ]
    refine wpAnyH_take (i := 144) (v := .agg #[.bool true, .string ⟨#[98]⟩]) rfl (by as_aux_lemma => kernel_rfl) (by as_aux_lemma => kernel_rfl) (by as_aux_lemma => kernel_rfl) (fun _ _ _ h => h) (Or.inl ⟨by as_aux_lemma => kernel_rfl, ?_⟩) (by assumption) ?_
    case refine_1 => (intro Wz hSw; have u := hSw.t11.c2; have u2 := hSw.t11.c3; go_simp; try with_reducible rfl)
    try simp only [Act.put, List.getElem_toArray, List.getElem_cons_succ, List.getElem_cons_zero, List.setIfInBounds_toArray, List.set_cons_zero, List.set_cons_succ]
    refine wpAnyH_ready (rs := [145]) (by as_aux_lemma => kernel_rfl) (by simp) ?_
    refine AllReadyH.cons rfl (fun K hK => ?_) AllReadyH.nil
    go_simp
    refine (HS1.out _).mono ?_
    rintro e q21 ⟨rfl, hbb⟩
    have hHeld21 : (fun Wz : World => HoldN w g1 g23 g24 g27 g28 g11 (.slice (some ⟨g25, 0, none⟩) 1 1) v26 Wz) q21 := hHeld20.later hbb
    clear hbb
    go_simp
    refine hK.out _ _ hHeld21 (fun hHeld2 => ?_)
    clear hK K hHeld2
    try simp only [Act.put, List.getElem_toArray, List.getElem_cons_succ, List.getElem_cons_zero, List.setIfInBounds_toArray, List.set_cons_zero, List.set_cons_succ]
    refine wpAnyH_take (i := 146) (v := .bool true) rfl (by as_aux_lemma => kernel_rfl) (by as_aux_lemma => kernel_rfl) (by as_aux_lemma => kernel_rfl) (fun _ _ _ h => h) (Or.inl ⟨by as_aux_lemma => kernel_rfl, ?_⟩) (by assumption) ?_
    case refine_1 => (intro Wz hSw; go_simp; try with_reducible rfl)
    try simp only [Act.put, List.getElem_toArray, List.getElem_cons_succ, List.getElem_cons_zero, List.setIfInBounds_toArray, List.set_cons_zero, List.set_cons_succ]
    refine wpAnyH_take (i := 147) (v := .bool true) rfl (by as_aux_lemma => kernel_rfl) (by as_aux_lemma => kernel_rfl) (by as_aux_lemma => kernel_rfl) (fun _ _ _ h => h) (Or.inl ⟨by as_aux_lemma => kernel_rfl, ?_⟩) (by assumption) ?_
    case refine_1 => (intro Wz hSw; go_simp; try with_reducible rfl)
    try simp only [Act.put, List.getElem_toArray, List.getElem_cons_succ, List.getElem_cons_zero, List.setIfInBounds_toArray, List.set_cons_zero, List.set_cons_succ]
    refine wpAnyH_take (i := 148) (v := .bool true) rfl (by as_aux_lemma => kernel_rfl) (by as_aux_lemma => kernel_rfl) (by as_aux_lemma => kernel_rfl) (fun _ _ _ h => h) (Or.inl ⟨by as_aux_lemma => kernel_rfl, ?_⟩) (by assumption) ?_
    case refine_1 => (intro Wz hSw; go_simp; try with_reducible rfl)
    try simp only [Act.put, List.getElem_toArray, List.getElem_cons_succ, List.getElem_cons_zero, List.setIfInBounds_toArray, List.set_cons_zero, List.set_cons_succ]
    refine wpAnyH_take (i := 149) (v := .slice (some ⟨g11, 0, none⟩) 2 c11) rfl (by as_aux_lemma => kernel_rfl) (by as_aux_lemma => kernel_rfl) (by as_aux_lemma => kernel_rfl) (fun _ _ _ h => h) (Or.inl ⟨by as_aux_lemma => kernel_rfl, ?_⟩) (by assumption) ?_
    case refine_1 => (intro Wz hSw; go_simp; try with_reducible rfl)
    try simp only [Act.put, List.getElem_toArray, List.getElem_cons_succ, List.getElem_cons_zero, List.setIfInBounds_toArray, List.set_cons_zero, List.set_cons_succ]
    refine wpAnyH_take (i := 150) (v := .pointer (some ⟨g11, 2, none⟩)) rfl (by as_aux_lemma => kernel_rfl) (by as_aux_lemma => kernel_rfl) (by as_aux_lemma => kernel_rfl) (fun _ _ _ h => h) (Or.inl ⟨by as_aux_lemma => kernel_rfl, ?_⟩) (by assumption) ?_
    case refine_1 => (intro Wz hSw; go_simp; try with_reducible rfl)
    try simp only [Act.put, List.getElem_toArray, List.getElem_cons_succ, List.getElem_cons_zero, List.setIfInBounds_toArray, List.set_cons_zero, List.set_cons_succ]
    refine wpAnyH_take (i := 151) (v := .agg #[.bool true, .string ⟨#[98]⟩]) rfl (by as_aux_lemma => kernel_rfl) (by as_aux_lemma => kernel_rfl) (by as_aux_lemma => kernel_rfl) (fun _ _ _ h => h) (Or.inl ⟨by as_aux_lemma => kernel_rfl, ?_⟩) (by assumption) ?_
    case refine_1 => (intro Wz hSw; have u := hSw.t11.c2; have u2 := hSw.t11.c3; go_simp; try with_reducible rfl)
    try simp only [Act.put, List.getElem_toArray, List.getElem_cons_succ, List.getElem_cons_zero, List.setIfInBounds_toArray, List.set_cons_zero, List.set_cons_succ]
    refine wpAnyH_take (i := 152) (v := .agg #[.bool false, .string ⟨#[98]⟩]) rfl (by as_aux_lemma => kernel_rfl) (by as_aux_lemma => kernel_rfl) (by as_aux_lemma => kernel_rfl) (fun _ _ _ h => h) (Or.inl ⟨by as_aux_lemma => kernel_rfl, ?_⟩) (by assumption) ?_
    case refine_1 => (intro Wz hSw; go_simp; try with_reducible rfl)
    try simp only [Act.put, List.getElem_toArray, List.getElem_cons_succ, List.getElem_cons_zero, List.setIfInBounds_toArray, List.set_cons_zero, List.set_cons_succ]
    refine wpAnyH_ready (rs := [153]) (by as_aux_lemma => kernel_rfl) (by simp) ?_
    refine AllReadyH.cons rfl (fun K hK => ?_) AllReadyH.nil
    go_simp
    refine (HWk.out _).mono ?_
    rintro e q22 ⟨rfl, hbb⟩
    have hHeld22 : (fun Wz : World => HoldN w g1 g23 g24 g27 g28 g11 (.slice (some ⟨g25, 0, none⟩) 1 1) v26 Wz) q22 := hHeld21.later hbb
    clear hbb
    go_simp
    refine hK.out _ _ hHeld22 (fun hHeld2 => ?_)
    clear hK K hHeld2
    try simp only [Act.put, List.getElem_toArray, List.getElem_cons_succ, List.getElem_cons_zero, List.setIfInBounds_toArray, List.set_cons_zero, List.set_cons_succ]
    refine wpAnyH_take (i := 154) (v := .bool true) rfl (by as_aux_lemma => kernel_rfl) (by as_aux_lemma => kernel_rfl) (by as_aux_lemma => kernel_rfl) (fun _ _ _ h => h) (Or.inl ⟨by as_aux_lemma => kernel_rfl, ?_⟩) (by assumption) ?_
    case refine_1 => (intro Wz hSw; go_simp; try with_reducible rfl)
    try simp only [Act.put, List.getElem_toArray, List.getElem_cons_succ, List.getElem_cons_zero, List.setIfInBounds_toArray, List.set_cons_zero, List.set_cons_succ]
    refine wpAnyH_take (i := 155) (v := ?_) rfl (by as_aux_lemma => kernel_rfl) (by as_aux_lemma => kernel_rfl) (by as_aux_lemma => kernel_rfl) (fun _ _ _ h => h) (Or.inl ⟨by as_aux_lemma => kernel_rfl, ?_⟩) (by assumption) ?_
    case refine_2 => (intro Wz hSw; go_simp; try with_reducible rfl)
    try simp only [Act.put, List.getElem_toArray, List.getElem_cons_succ, List.getElem_cons_zero, List.setIfInBounds_toArray, List.set_cons_zero]
    refine wpAnyH_done (by kernel_rfl) ?_ _
    go_wp2_with fail
    go_ret
    exact ⟨rfl, hHeld22.bl⟩
end Tk
end Go.Proofs.YthooghgiokgdhaaGreatDoor
