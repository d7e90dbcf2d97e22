/- The law HopNames: its walk. -/
import Derived.Test.YtcddkeekabafgaaDoorQD
import Derived.Test.YtcddkeekabafgaaDoorQRefSa
namespace Go.Proofs.YtcddkeekabafgaaDoor
open Go.RowKit
namespace Tk

theorem isFlds_litN (W : World) (l : List (Bs × Bs)) (cs : Array Value) (n : Nat) (hcs : cs = (fcells l).toArray) (hn : n = l.length) : IsFlds (W.alloc (Obj.cells cs 24)) (.slice (some ⟨W.heap.size, 0, none⟩) n n) l := by
  subst hcs hn
  refine ⟨_, _, rfl, Nat.le_refl _, fun j f hj => ⟨W.heap.size, 0, rfl, ?_, ?_⟩⟩
  · rw [World.cell?_alloc_new, Nat.zero_add]
    simpa using (fcells_get l j f hj).1
  · rw [World.cell?_alloc_new, Nat.zero_add]
    simpa using (fcells_get l j f hj).2
theorem nil_lit {a : Addr} {m k : Nat} : ∀ n c, (Value.slice (some a) m k) = .slice none n c → c = 0 := fun _ _ h => by injection h with h1; cases h1
theorem dig_0 : digI 0 = [48] := by unfold digI; rw [show (0 : Int) = ((0 : Nat) : Int) from rfl, Lib.itoa_nonneg, Lib.decDigits_one (by decide)]; rfl
theorem dig_1 : digI 1 = [49] := by unfold digI; rw [show (1 : Int) = ((1 : Nat) : Int) from rfl, Lib.itoa_nonneg, Lib.decDigits_one (by decide)]; rfl
theorem viaV_of (l : List (Bs × Bs)) (minor : Int) (d : Bs) (name : Bs) (h : digI minor = d) : viaV l minor name = if 0 < (allF l viB).length then joinB (allF l viB) ++ [44, 32] ++ ([49, 46] ++ d ++ [32] ++ name) else [49, 46] ++ d ++ [32] ++ name := by
  unfold viaV viaS; rw [h]
theorem ex_f1 : forwL [80, 85, 84] [([72, 111, 115, 116], [104]), ([67, 111, 110, 116, 101, 110, 116, 45, 76, 101, 110, 103, 116, 104], [50]), ([69, 120, 112, 101, 99, 116], [49, 48, 48, 45, 99, 111, 110, 116, 105, 110, 117, 101]), ([118, 105, 97], [49, 46, 49, 32, 97]), ([84, 69], [120])] 0 [112] = [([72, 111, 115, 116], [104]), ([118, 105, 97], [49, 46, 49, 32, 97, 44, 32, 49, 46, 48, 32, 112])] := by
  unfold forwL viaL
  rw [viaV_of _ 0 [48] [112] dig_0]
  decide +kernel
theorem ex_f2 : forwL [] [([69, 120, 112, 101, 99, 116], [120])] 1 [113] = [([69, 120, 112, 101, 99, 116], [120]), ([86, 105, 97], [49, 46, 49, 32, 113])] := by
  unfold forwL viaL
  rw [viaV_of _ 1 [49] [113] dig_1]
  decide +kernel
theorem ex_same : sameFs [([72, 111, 115, 116], [104]), ([118, 105, 97], [49, 46, 49, 32, 97, 44, 32, 49, 46, 48, 32, 112])] [([72, 111, 115, 116], [104]), ([86, 105, 97], [49, 46, 49, 32, 97, 44, 32, 49, 46, 48, 32, 112])] = true := by decide +kernel
theorem ex_c : closesB [] 0 = true ∧ closesB [] 1 = false ∧ closesB [([99, 111, 110, 110, 101, 99, 116, 105, 111, 110], [75, 101, 101, 112, 45, 65, 108, 105, 118, 101])] 0 = false ∧ closesB [([99, 111, 110, 110, 101, 99, 116, 105, 111, 110], [120, 44, 67, 108, 111, 115, 101])] 1 = true := by decide +kernel
theorem ex_h : isHop [107, 101, 101, 112, 45, 65, 76, 73, 86, 69] = true ∧ isHop viB = false := by decide +kernel

set_option maxHeartbeats 32000000 in
set_option maxRecDepth 100000 in
theorem names_law (w : World) : Calls Tryd.prog 3 #[] w fun e w' => e = .returned (.bool true) ∧ Below w.heap.size w w' := by
  have HLv := Lib.hid (lives07_any w)
  have HOne := Lib.hid (fun (x y : ByteArray) (W : World) => one07_any x y W)
  have HF1 := Lib.hid (fun (W : World) (vf vt : Value) (h1 : IsFlds W vf [([72, 111, 115, 116], [104]), ([67, 111, 110, 116, 101, 110, 116, 45, 76, 101, 110, 103, 116, 104], [50]), ([69, 120, 112, 101, 99, 116], [49, 48, 48, 45, 99, 111, 110, 116, 105, 110, 117, 101]), ([118, 105, 97], [49, 46, 49, 32, 97]), ([84, 69], [120])]) (h2 : ∀ n c, vf = .slice none n c → c = 0) => forward_any ⟨#[80, 85, 84]⟩ ⟨#[47]⟩ 0 ⟨#[]⟩ 0 vf ⟨#[97, 98]⟩ vt _ [112] W h1 h2 (by decide) (by decide) (by decide) (by decide) (by decide) (by decide) (by decide) (by rw [dig_0]; decide) (fun Wz _ => itoaS_any 0 Wz (by decide)))
  have HF0 := Lib.hid (fun (W : World) (vf vt : Value) (h1 : IsFlds W vf [([72, 111, 115, 116], [104]), ([67, 111, 110, 116, 101, 110, 116, 45, 76, 101, 110, 103, 116, 104], [50]), ([69, 120, 112, 101, 99, 116], [49, 48, 48, 45, 99, 111, 110, 116, 105, 110, 117, 101]), ([118, 105, 97], [49, 46, 49, 32, 97]), ([84, 69], [120])]) (h2 : ∀ n c, vf = .slice none n c → c = 0) => forward_any ⟨#[80, 85, 84]⟩ ⟨#[47]⟩ 0 ⟨#[]⟩ 0 vf ⟨#[97, 98]⟩ vt _ [] W h1 h2 (by decide) (by decide) (by decide) (by decide) (by decide) (by decide) (by decide) (by rw [dig_0]; decide) (fun Wz _ => itoaS_any 0 Wz (by decide)))
  have HF2 := Lib.hid (fun (W : World) (vf : Value) (h1 : IsFlds W vf [([69, 120, 112, 101, 99, 116], [120])]) (h2 : ∀ n c, vf = .slice none n c → c = 0) => forward_any ⟨#[]⟩ ⟨#[]⟩ 200 ⟨#[]⟩ 1 vf ⟨#[]⟩ (.slice none 0 0) _ [113] W h1 h2 (by decide) (by decide) (by decide) (by decide) (by decide) (by decide) (by decide) (by rw [dig_1]; decide) (fun Wz _ => itoaS_any 1 Wz (by decide)))
  unfold FwPost msgC at HF1 HF0 HF2
  have t1 : tokB [112] = true := by decide
  have t2 : tokB [] = false := by decide
  have t3 : tokB [113] = true := by decide
  have x1 : forwL (bs ⟨#[80, 85, 84]⟩) [([72, 111, 115, 116], [104]), ([67, 111, 110, 116, 101, 110, 116, 45, 76, 101, 110, 103, 116, 104], [50]), ([69, 120, 112, 101, 99, 116], [49, 48, 48, 45, 99, 111, 110, 116, 105, 110, 117, 101]), ([118, 105, 97], [49, 46, 49, 32, 97]), ([84, 69], [120])] 0 [112] = [([72, 111, 115, 116], [104]), ([118, 105, 97], [49, 46, 49, 32, 97, 44, 32, 49, 46, 48, 32, 112])] := ex_f1
  have x2 : forwL (bs ⟨#[]⟩) [([69, 120, 112, 101, 99, 116], [120])] 1 [113] = [([69, 120, 112, 101, 99, 116], [120]), ([86, 105, 97], [49, 46, 49, 32, 113])] := ex_f2
  simp only [t1, if_true, x1] at HF1
  simp only [t2, Bool.false_eq_true, if_false] at HF0
  simp only [t3, if_true, x2] at HF2
  clear t1 t2 t3 x1 x2
  go_enter Tryd.func3, Tryd.ntmps3
  go_wp2_with fail
  refine HLv.out.mono ?_
  rintro e w0 ⟨rfl, hb⟩
  have HB := Lib.hid hb
  clear hb HLv
  go_wp2_with fail
  refine (HOne.out _ _ _).mono ?_
  rintro e w1 ⟨rfl, hb⟩
  replace HB := Lib.hid (HB.out.trans (hb.mono HB.out.size))
  clear hb
  go_wp2_with fail
  refine (HOne.out _ _ _).mono ?_
  rintro e w2 ⟨rfl, hb⟩
  replace HB := Lib.hid (HB.out.trans (hb.mono HB.out.size))
  clear hb
  go_wp2_with fail
  refine (HOne.out _ _ _).mono ?_
  rintro e w3 ⟨rfl, hb⟩
  replace HB := Lib.hid (HB.out.trans (hb.mono HB.out.size))
  clear hb
  go_wp2_with fail
  refine (HOne.out _ _ _).mono ?_
  rintro e w4 ⟨rfl, hb⟩
  replace HB := Lib.hid (HB.out.trans (hb.mono HB.out.size))
  clear hb
  go_wp2_with fail
  refine (HOne.out _ _ _).mono ?_
  rintro e w5 ⟨rfl, hb⟩
  replace HB := Lib.hid (HB.out.trans (hb.mono HB.out.size))
  clear hb
  have hb := below_alloc w5 (Obj.cells #[.string ⟨#[72, 111, 115, 116]⟩, .string ⟨#[104]⟩, .string ⟨#[67, 111, 110, 116, 101, 110, 116, 45, 76, 101, 110, 103, 116, 104]⟩, .string ⟨#[50]⟩, .string ⟨#[69, 120, 112, 101, 99, 116]⟩, .string ⟨#[49, 48, 48, 45, 99, 111, 110, 116, 105, 110, 117, 101]⟩, .string ⟨#[118, 105, 97]⟩, .string ⟨#[49, 46, 49, 32, 97]⟩, .string ⟨#[84, 69]⟩, .string ⟨#[120]⟩] 24)
  replace HB := Lib.hid (HB.out.trans (hb.mono HB.out.size))
  have HM := Lib.hid (isFlds_litN w5 [([72, 111, 115, 116], [104]), ([67, 111, 110, 116, 101, 110, 116, 45, 76, 101, 110, 103, 116, 104], [50]), ([69, 120, 112, 101, 99, 116], [49, 48, 48, 45, 99, 111, 110, 116, 105, 110, 117, 101]), ([118, 105, 97], [49, 46, 49, 32, 97]), ([84, 69], [120])] #[.string ⟨#[72, 111, 115, 116]⟩, .string ⟨#[104]⟩, .string ⟨#[67, 111, 110, 116, 101, 110, 116, 45, 76, 101, 110, 103, 116, 104]⟩, .string ⟨#[50]⟩, .string ⟨#[69, 120, 112, 101, 99, 116]⟩, .string ⟨#[49, 48, 48, 45, 99, 111, 110, 116, 105, 110, 117, 101]⟩, .string ⟨#[118, 105, 97]⟩, .string ⟨#[49, 46, 49, 32, 97]⟩, .string ⟨#[84, 69]⟩, .string ⟨#[120]⟩] 5 rfl rfl)
  clear hb
  go_wp2_with fail
  generalize (w5.alloc (Obj.cells #[.string ⟨#[72, 111, 115, 116]⟩, .string ⟨#[104]⟩, .string ⟨#[67, 111, 110, 116, 101, 110, 116, 45, 76, 101, 110, 103, 116, 104]⟩, .string ⟨#[50]⟩, .string ⟨#[69, 120, 112, 101, 99, 116]⟩, .string ⟨#[49, 48, 48, 45, 99, 111, 110, 116, 105, 110, 117, 101]⟩, .string ⟨#[118, 105, 97]⟩, .string ⟨#[49, 46, 49, 32, 97]⟩, .string ⟨#[84, 69]⟩, .string ⟨#[120]⟩] 24)) = v1 at *
  generalize w5.heap.size = g1 at *
  refine (HOne.out _ _ _).mono ?_
  rintro e w6 ⟨rfl, hb⟩
  replace HB := Lib.hid (HB.out.trans (hb.mono HB.out.size))
  replace HM := Lib.hid (isFlds_below HM.out hb)
  clear hb
  have hb := below_alloc w6 (Obj.cells #[.string ⟨#[84]⟩, .string ⟨#[49]⟩] 24)
  replace HB := Lib.hid (HB.out.trans (hb.mono HB.out.size))
  replace HM := Lib.hid (isFlds_below HM.out hb)
  have HT := Lib.hid (isFlds_litN w6 [([84], [49])] #[.string ⟨#[84]⟩, .string ⟨#[49]⟩] 1 rfl rfl)
  clear hb
  have hgs : (w6.alloc (Obj.cells #[.string ⟨#[84]⟩, .string ⟨#[49]⟩] 24)).heap.size = w6.heap.size + 1 := by simp
  have hb := below_alloc (w6.alloc (Obj.cells #[.string ⟨#[84]⟩, .string ⟨#[49]⟩] 24)) (Obj.cells #[.string ⟨#[80, 85, 84]⟩, .string ⟨#[47]⟩, .int .i64 0, .string ⟨#[]⟩, .int .i64 0, .slice (some ⟨g1, 0, none⟩) 5 5, .string ⟨#[97, 98]⟩, .slice (some ⟨w6.heap.size, 0, none⟩) 1 1] 28)
  replace HB := Lib.hid (HB.out.trans (hb.mono HB.out.size))
  replace HM := Lib.hid (isFlds_below HM.out hb)
  replace HT := Lib.hid (isFlds_below HT.out hb)
  have HX := Lib.hid (Box.new (w6.alloc (Obj.cells #[.string ⟨#[84]⟩, .string ⟨#[49]⟩] 24)) 28 #[.string ⟨#[80, 85, 84]⟩, .string ⟨#[47]⟩, .int .i64 0, .string ⟨#[]⟩, .int .i64 0, .slice (some ⟨g1, 0, none⟩) 5 5, .string ⟨#[97, 98]⟩, .slice (some ⟨w6.heap.size, 0, none⟩) 1 1])
  clear hb
  rw [hgs] at HX
  have u0 := HX.out.cell 0 _ rfl
  have u1 := HX.out.cell 1 _ rfl
  have u2 := HX.out.cell 2 _ rfl
  have u3 := HX.out.cell 3 _ rfl
  have u4 := HX.out.cell 4 _ rfl
  have u5 := HX.out.cell 5 _ rfl
  have u6 := HX.out.cell 6 _ rfl
  have u7 := HX.out.cell 7 _ rfl
  go_wp2_with fail
  generalize ((w6.alloc (Obj.cells #[.string ⟨#[84]⟩, .string ⟨#[49]⟩] 24)).alloc (Obj.cells #[.string ⟨#[80, 85, 84]⟩, .string ⟨#[47]⟩, .int .i64 0, .string ⟨#[]⟩, .int .i64 0, .slice (some ⟨g1, 0, none⟩) 5 5, .string ⟨#[97, 98]⟩, .slice (some ⟨w6.heap.size, 0, none⟩) 1 1] 28)) = v3 at *
  clear hgs
  generalize w6.heap.size = g2 at *
  clear u0 u1 u2 u3 u4 u5 u6 u7
  refine (HF1.out v3 _ _ HM.out nil_lit).mono ?_
  rintro e w7 ⟨hb, vF, rfl, ho⟩
  replace HB := Lib.hid (HB.out.trans (hb.mono HB.out.size))
  replace HM := Lib.hid (isFlds_below HM.out hb)
  replace HT := Lib.hid (isFlds_below HT.out hb)
  replace HX := Lib.hid (HX.out.later hb)
  obtain ⟨aF, cF, rfl⟩ : ∃ a c, vF = .slice a 2 c := by obtain ⟨a, c, h, -⟩ := isFlds_own ho; exact ⟨a, c, h⟩
  have HFF := Lib.hid (isFlds_own ho)
  clear hb ho
  have hb := below_alloc w7 (Obj.cells #[.string ⟨#[80, 85, 84]⟩, .string ⟨#[47]⟩, .int .i64 0, .string ⟨#[]⟩, .int .i64 1, .slice aF 2 cF, .string ⟨#[97, 98]⟩, .slice none 0 0] 28)
  replace HB := Lib.hid (HB.out.trans (hb.mono HB.out.size))
  replace HM := Lib.hid (isFlds_below HM.out hb)
  replace HT := Lib.hid (isFlds_below HT.out hb)
  replace HX := Lib.hid (HX.out.later hb)
  replace HFF := Lib.hid (isFlds_below HFF.out hb)
  have HY := Lib.hid (Box.new w7 28 #[.string ⟨#[80, 85, 84]⟩, .string ⟨#[47]⟩, .int .i64 0, .string ⟨#[]⟩, .int .i64 1, .slice aF 2 cF, .string ⟨#[97, 98]⟩, .slice none 0 0])
  clear hb
  have u0 := HX.out.cell 0 _ rfl
  have u1 := HX.out.cell 1 _ rfl
  have u2 := HX.out.cell 2 _ rfl
  have u3 := HX.out.cell 3 _ rfl
  have u4 := HX.out.cell 4 _ rfl
  have u5 := HX.out.cell 5 _ rfl
  have u6 := HX.out.cell 6 _ rfl
  have u7 := HX.out.cell 7 _ rfl
  go_wp2_with fail
  generalize (w7.alloc (Obj.cells #[.string ⟨#[80, 85, 84]⟩, .string ⟨#[47]⟩, .int .i64 0, .string ⟨#[]⟩, .int .i64 1, .slice aF 2 cF, .string ⟨#[97, 98]⟩, .slice none 0 0] 28)) = v4 at *
  generalize w7.heap.size = gF at *
  clear u0 u1 u2 u3 u4 u5 u6 u7
  refine (HF0.out v4 _ _ HM.out nil_lit).mono ?_
  rintro e w8 ⟨hb, rfl⟩
  replace HB := Lib.hid (HB.out.trans (hb.mono HB.out.size))
  replace HM := Lib.hid (isFlds_below HM.out hb)
  replace HT := Lib.hid (isFlds_below HT.out hb)
  replace HX := Lib.hid (HX.out.later hb)
  replace HFF := Lib.hid (isFlds_below HFF.out hb)
  replace HY := Lib.hid (HY.out.later hb)
  clear hb HF1 HF0
  clear HM HT HX
  have hb := below_alloc w8 (Obj.cells #[.string ⟨#[]⟩, .string ⟨#[]⟩, .int .i64 0, .string ⟨#[]⟩, .int .i64 0, .slice none 0 0, .string ⟨#[]⟩, .slice none 0 0] 28)
  replace HB := Lib.hid (HB.out.trans (hb.mono HB.out.size))
  replace HFF := Lib.hid (isFlds_below HFF.out hb)
  replace HY := Lib.hid (HY.out.later hb)
  clear hb
  go_wp2_with fail
  generalize w8.alloc (Obj.cells #[.string ⟨#[]⟩, .string ⟨#[]⟩, .int .i64 0, .string ⟨#[]⟩, .int .i64 0, .slice none 0 0, .string ⟨#[]⟩, .slice none 0 0] 28) = v5 at *
  refine (HOne.out _ _ _).mono ?_
  rintro e w9 ⟨rfl, hb⟩
  replace HB := Lib.hid (HB.out.trans (hb.mono HB.out.size))
  replace HFF := Lib.hid (isFlds_below HFF.out hb)
  replace HY := Lib.hid (HY.out.later hb)
  clear hb
  have hb := below_alloc w9 (Obj.cells #[.string ⟨#[69, 120, 112, 101, 99, 116]⟩, .string ⟨#[120]⟩] 24)
  replace HB := Lib.hid (HB.out.trans (hb.mono HB.out.size))
  replace HFF := Lib.hid (isFlds_below HFF.out hb)
  replace HY := Lib.hid (HY.out.later hb)
  have HR := Lib.hid (isFlds_litN w9 [([69, 120, 112, 101, 99, 116], [120])] #[.string ⟨#[69, 120, 112, 101, 99, 116]⟩, .string ⟨#[120]⟩] 1 rfl rfl)
  clear hb
  go_wp2_with fail
  generalize (w9.alloc (Obj.cells #[.string ⟨#[69, 120, 112, 101, 99, 116]⟩, .string ⟨#[120]⟩] 24)) = v6 at *
  generalize w9.heap.size = gR at *
  refine (HF2.out v6 _ HR.out nil_lit).mono ?_
  rintro e w10 ⟨hb, vR, rfl, ho⟩
  replace HB := Lib.hid (HB.out.trans (hb.mono HB.out.size))
  replace HFF := Lib.hid (isFlds_below HFF.out hb)
  replace HY := Lib.hid (HY.out.later hb)
  replace HR := Lib.hid (isFlds_below HR.out hb)
  obtain ⟨aR, cR, rfl⟩ : ∃ a c, vR = .slice a 2 c := by obtain ⟨a, c, h, -⟩ := isFlds_own ho; exact ⟨a, c, h⟩
  have HRF := Lib.hid (isFlds_own ho)
  clear hb ho HF2 HR
  have hb := below_alloc w10 (Obj.cells #[.string ⟨#[]⟩, .string ⟨#[]⟩, .int .i64 200, .string ⟨#[]⟩, .int .i64 1, .slice aR 2 cR, .string ⟨#[]⟩, .slice none 0 0] 28)
  replace HB := Lib.hid (HB.out.trans (hb.mono HB.out.size))
  replace HFF := Lib.hid (isFlds_below HFF.out hb)
  replace HY := Lib.hid (HY.out.later hb)
  replace HRF := Lib.hid (isFlds_below HRF.out hb)
  have HZ := Lib.hid (Box.new w10 28 #[.string ⟨#[]⟩, .string ⟨#[]⟩, .int .i64 200, .string ⟨#[]⟩, .int .i64 1, .slice aR 2 cR, .string ⟨#[]⟩, .slice none 0 0])
  clear hb
  go_wp2_with fail
  generalize (w10.alloc (Obj.cells #[.string ⟨#[]⟩, .string ⟨#[]⟩, .int .i64 200, .string ⟨#[]⟩, .int .i64 1, .slice aR 2 cR, .string ⟨#[]⟩, .slice none 0 0] 28)) = v7 at *
  generalize w10.heap.size = gZ at *
  refine (HOne.out _ _ _).mono ?_
  rintro e w11 ⟨rfl, hb⟩
  replace HB := Lib.hid (HB.out.trans (hb.mono HB.out.size))
  replace HFF := Lib.hid (isFlds_below HFF.out hb)
  replace HY := Lib.hid (HY.out.later hb)
  replace HRF := Lib.hid (isFlds_below HRF.out hb)
  replace HZ := Lib.hid (HZ.out.later hb)
  clear hb
  go_wp2_with fail
  refine (HOne.out _ _ _).mono ?_
  rintro e w12 ⟨rfl, hb⟩
  replace HB := Lib.hid (HB.out.trans (hb.mono HB.out.size))
  replace HFF := Lib.hid (isFlds_below HFF.out hb)
  replace HY := Lib.hid (HY.out.later hb)
  replace HRF := Lib.hid (isFlds_below HRF.out hb)
  replace HZ := Lib.hid (HZ.out.later hb)
  clear hb
  have hb := below_alloc w12 (Obj.cells #[.string ⟨#[72, 111, 115, 116]⟩, .string ⟨#[104]⟩, .string ⟨#[86, 105, 97]⟩, .string ⟨#[49, 46, 49, 32, 97, 44, 32, 49, 46, 48, 32, 112]⟩] 24)
  replace HB := Lib.hid (HB.out.trans (hb.mono HB.out.size))
  replace HFF := Lib.hid (isFlds_below HFF.out hb)
  replace HY := Lib.hid (HY.out.later hb)
  replace HRF := Lib.hid (isFlds_below HRF.out hb)
  replace HZ := Lib.hid (HZ.out.later hb)
  have HW := Lib.hid (isFlds_litN w12 [([72, 111, 115, 116], [104]), ([86, 105, 97], [49, 46, 49, 32, 97, 44, 32, 49, 46, 48, 32, 112])] #[.string ⟨#[72, 111, 115, 116]⟩, .string ⟨#[104]⟩, .string ⟨#[86, 105, 97]⟩, .string ⟨#[49, 46, 49, 32, 97, 44, 32, 49, 46, 48, 32, 112]⟩] 2 rfl rfl)
  clear hb
  go_wp2_with fail
  generalize (w12.alloc (Obj.cells #[.string ⟨#[72, 111, 115, 116]⟩, .string ⟨#[104]⟩, .string ⟨#[86, 105, 97]⟩, .string ⟨#[49, 46, 49, 32, 97, 44, 32, 49, 46, 48, 32, 112]⟩] 24)) = v8 at *
  generalize w12.heap.size = gW at *
  try simp only [List.append_eq, List.cons_append, List.nil_append]
  have hHeld : Box v8 gF 28 #[.string ⟨#[80, 85, 84]⟩, .string ⟨#[47]⟩, .int .i64 0, .string ⟨#[]⟩, .int .i64 1, .slice aF 2 cF, .string ⟨#[97, 98]⟩, .slice none 0 0] ∧ Box v8 gZ 28 #[.string ⟨#[]⟩, .string ⟨#[]⟩, .int .i64 200, .string ⟨#[]⟩, .int .i64 1, .slice aR 2 cR, .string ⟨#[]⟩, .slice none 0 0] := ⟨HY.out, HZ.out⟩
  refine wp_region_held_drew (S := (fun Wz => Box Wz gF 28 #[.string ⟨#[80, 85, 84]⟩, .string ⟨#[47]⟩, .int .i64 0, .string ⟨#[]⟩, .int .i64 1, .slice aF 2 cF, .string ⟨#[97, 98]⟩, .slice none 0 0] ∧ Box Wz gZ 28 #[.string ⟨#[]⟩, .string ⟨#[]⟩, .int .i64 200, .string ⟨#[]⟩, .int .i64 1, .slice aR 2 cR, .string ⟨#[]⟩, .slice none 0 0])) (by kernel_rfl) hHeld (fun hHeld => ?_)
  have hS1 : Hid (∀ Wz : World, IsFlds Wz (.slice aF 2 cF) [([72, 111, 115, 116], [104]), ([118, 105, 97], [49, 46, 49, 32, 97, 44, 32, 49, 46, 48, 32, 112])] → IsFlds Wz (.slice (some ⟨gW, 0, none⟩) 2 2) [([72, 111, 115, 116], [104]), ([86, 105, 97], [49, 46, 49, 32, 97, 44, 32, 49, 46, 48, 32, 112])] → Calls Tryd.prog 9 #[.slice aF 2 cF, .slice (some ⟨gW, 0, none⟩) 2 2] Wz fun e w' => e = .returned (.bool true) ∧ Below Wz.heap.size Wz w') := by
    intro Wz h1 h2
    have h := rsamef_any _ _ _ _ Wz h1 h2 (by intro f hf; rcases hf with hf | hf <;> (revert f; decide)) (by decide) (by decide)
    rw [ex_same] at h; exact h
  have hS2 : Hid (∀ (Wz : World) (v : Value), IsFlds Wz (.slice aR 2 cR) [([69, 120, 112, 101, 99, 116], [120]), ([86, 105, 97], [49, 46, 49, 32, 113])] → IsFlds Wz v [([69, 120, 112, 101, 99, 116], [120]), ([86, 105, 97], [49, 46, 49, 32, 113])] → Calls Tryd.prog 9 #[.slice aR 2 cR, v] Wz fun e w' => e = .returned (.bool true) ∧ Below Wz.heap.size Wz w') := by
    intro Wz v h1 h2
    have h := rsamef_any _ _ _ _ Wz h1 h2 (by intro f hf; rcases hf with hf | hf <;> (revert f; decide)) (by decide) (by decide)
    rw [sameFs_refl] at h; exact h
  have hP1 : Hid (∀ Wz : World, Calls Tryd.prog 10 #[.string ⟨#[107, 101, 101, 112, 45, 65, 76, 73, 86, 69]⟩] Wz fun e w' => e = .returned (.bool true) ∧ Below Wz.heap.size Wz w') := by
    intro Wz
    have h := hop_any [107, 101, 101, 112, 45, 65, 76, 73, 86, 69] Wz (by decide)
    rw [show isHop [107, 101, 101, 112, 45, 65, 76, 73, 86, 69] = true from ex_h.1] at h; exact h
  have hP2 : Hid (∀ Wz : World, Calls Tryd.prog 10 #[.string ⟨#[86, 105, 97]⟩] Wz fun e w' => e = .returned (.bool false) ∧ Below Wz.heap.size Wz w') := by
    intro Wz
    have h := hop_any [86, 105, 97] Wz (by decide)
    rw [show isHop [86, 105, 97] = false from ex_h.2] at h; exact h
  have hC0 : Hid (∀ (Wz : World) (v : Value), IsFlds Wz v [] → Calls Tryd.prog 11 #[.agg #[.string ⟨#[]⟩, .string ⟨#[]⟩, .int .i64 0, .string ⟨#[]⟩, .int .i64 0, v, .string ⟨#[]⟩, .slice none 0 0]] Wz fun e w' => e = .returned (.bool true) ∧ Below Wz.heap.size Wz w') := by
    intro Wz v h1
    have h := closes_any ⟨#[]⟩ ⟨#[]⟩ 0 ⟨#[]⟩ 0 v ⟨#[]⟩ (.slice none 0 0) [] Wz h1 (by decide) (by decide)
    rw [show closesB [] 0 = true from ex_c.1] at h; exact h
  have hC1 : Hid (∀ (Wz : World) (v : Value), IsFlds Wz v [] → Calls Tryd.prog 11 #[.agg #[.string ⟨#[]⟩, .string ⟨#[]⟩, .int .i64 0, .string ⟨#[]⟩, .int .i64 1, v, .string ⟨#[]⟩, .slice none 0 0]] Wz fun e w' => e = .returned (.bool false) ∧ Below Wz.heap.size Wz w') := by
    intro Wz v h1
    have h := closes_any ⟨#[]⟩ ⟨#[]⟩ 0 ⟨#[]⟩ 1 v ⟨#[]⟩ (.slice none 0 0) [] Wz h1 (by decide) (by decide)
    rw [show closesB [] 1 = false from ex_c.2.1] at h; exact h
  have hC2 : Hid (∀ (Wz : World) (v : Value), IsFlds Wz v [([99, 111, 110, 110, 101, 99, 116, 105, 111, 110], [75, 101, 101, 112, 45, 65, 108, 105, 118, 101])] → Calls Tryd.prog 11 #[.agg #[.string ⟨#[]⟩, .string ⟨#[]⟩, .int .i64 0, .string ⟨#[]⟩, .int .i64 0, v, .string ⟨#[]⟩, .slice none 0 0]] Wz fun e w' => e = .returned (.bool false) ∧ Below Wz.heap.size Wz w') := by
    intro Wz v h1
    have h := closes_any ⟨#[]⟩ ⟨#[]⟩ 0 ⟨#[]⟩ 0 v ⟨#[]⟩ (.slice none 0 0) [([99, 111, 110, 110, 101, 99, 116, 105, 111, 110], [75, 101, 101, 112, 45, 65, 108, 105, 118, 101])] Wz h1 (by decide) (by decide)
    rw [show closesB [([99, 111, 110, 110, 101, 99, 116, 105, 111, 110], [75, 101, 101, 112, 45, 65, 108, 105, 118, 101])] 0 = false from ex_c.2.2.1] at h; exact h
  have hC3 : Hid (∀ (Wz : World) (v : Value), IsFlds Wz v [([99, 111, 110, 110, 101, 99, 116, 105, 111, 110], [120, 44, 67, 108, 111, 115, 101])] → Calls Tryd.prog 11 #[.agg #[.string ⟨#[]⟩, .string ⟨#[]⟩, .int .i64 0, .string ⟨#[]⟩, .int .i64 1, v, .string ⟨#[]⟩, .slice none 0 0]] Wz fun e w' => e = .returned (.bool true) ∧ Below Wz.heap.size Wz w') := by
    intro Wz v h1
    have h := closes_any ⟨#[]⟩ ⟨#[]⟩ 0 ⟨#[]⟩ 1 v ⟨#[]⟩ (.slice none 0 0) [([99, 111, 110, 110, 101, 99, 116, 105, 111, 110], [120, 44, 67, 108, 111, 115, 101])] Wz h1 (by decide) (by decide)
    rw [show closesB [([99, 111, 110, 110, 101, 99, 116, 105, 111, 110], [120, 44, 67, 108, 111, 115, 101])] 1 = true from ex_c.2.2.2] at h; exact h
  refine wpAnyH_take (i := 0) (v := ?_) rfl (by kernel_rfl) (by kernel_rfl) (by kernel_rfl) (fun _ _ _ h => h) (Or.inl ⟨by kernel_rfl, ?_⟩) (by assumption) ?_
  case refine_2 => (intro Wz hSw; go_simp; try with_reducible rfl)
  try simp only [Act.put, List.getElem_toArray, List.getElem_cons_zero, List.setIfInBounds_toArray, List.set_cons_zero, List.set_cons_succ]
  refine wpAnyH_take (i := 1) (v := .bool true) rfl (by kernel_rfl) (by kernel_rfl) (by kernel_rfl) (fun _ _ _ h => h) (Or.inl ⟨by kernel_rfl, ?_⟩) (by assumption) ?_
  case refine_1 => (intro Wz hSw; go_simp; try with_reducible rfl)
  try simp only [Act.put, List.getElem_toArray, List.getElem_cons_succ, List.getElem_cons_zero, List.setIfInBounds_toArray, List.set_cons_zero, List.set_cons_succ]
  refine wpAnyH_take (i := 2) (v := ?_) rfl (by kernel_rfl) (by kernel_rfl) (by kernel_rfl) (fun _ _ _ h => h) (Or.inl ⟨by kernel_rfl, ?_⟩) (by assumption) ?_
  case refine_2 => (intro Wz hSw; go_simp; try with_reducible rfl)
  try simp only [Act.put, List.getElem_toArray, List.getElem_cons_succ, List.getElem_cons_zero, List.setIfInBounds_toArray, List.set_cons_zero, List.set_cons_succ]
  refine wpAnyH_take (i := 3) (v := ?_) rfl (by kernel_rfl) (by kernel_rfl) (by kernel_rfl) (fun _ _ _ h => h) (Or.inl ⟨by kernel_rfl, ?_⟩) (by assumption) ?_
  case refine_2 => (intro Wz hSw; go_simp; try with_reducible rfl)
  try simp only [Act.put, List.getElem_toArray, List.getElem_cons_succ, List.getElem_cons_zero, List.setIfInBounds_toArray, List.set_cons_zero, List.set_cons_succ]
  refine wpAnyH_take (i := 4) (v := ?_) rfl (by kernel_rfl) (by kernel_rfl) (by kernel_rfl) (fun _ _ _ h => h) (Or.inl ⟨by kernel_rfl, ?_⟩) (by assumption) ?_
  case refine_2 => (intro Wz hSw; have u := Box.cell hSw.1 4 _ rfl; go_simp; try with_reducible rfl)
  try simp only [Act.put, List.getElem_toArray, List.getElem_cons_succ, List.getElem_cons_zero, List.setIfInBounds_toArray, List.set_cons_zero, List.set_cons_succ]
  refine wpAnyH_take (i := 5) (v := .bool true) rfl (by kernel_rfl) (by kernel_rfl) (by kernel_rfl) (fun _ _ _ h => h) (Or.inl ⟨by kernel_rfl, ?_⟩) (by assumption) ?_
  case refine_1 => (intro Wz hSw; go_simp; try with_reducible rfl)
  try simp only [Act.put, List.getElem_toArray, List.getElem_cons_succ, List.getElem_cons_zero, List.setIfInBounds_toArray, List.set_cons_zero, List.set_cons_succ]
  refine wpAnyH_take (i := 6) (v := ?_) rfl (by kernel_rfl) (by kernel_rfl) (by kernel_rfl) (fun _ _ _ h => h) (Or.inl ⟨by kernel_rfl, ?_⟩) (by assumption) ?_
  case refine_2 => (intro Wz hSw; go_simp; try with_reducible rfl)
  try simp only [Act.put, List.getElem_toArray, List.getElem_cons_succ, List.getElem_cons_zero, List.setIfInBounds_toArray, List.set_cons_zero, List.set_cons_succ]
  refine wpAnyH_take (i := 7) (v := ?_) rfl (by kernel_rfl) (by kernel_rfl) (by kernel_rfl) (fun _ _ _ h => h) (Or.inl ⟨by kernel_rfl, ?_⟩) (by assumption) ?_
  case refine_2 => (intro Wz hSw; go_simp; try with_reducible rfl)
  try simp only [Act.put, List.getElem_toArray, List.getElem_cons_succ, List.getElem_cons_zero, List.setIfInBounds_toArray, List.set_cons_zero, List.set_cons_succ]
  refine wpAnyH_take (i := 8) (v := ?_) rfl (by kernel_rfl) (by kernel_rfl) (by kernel_rfl) (fun _ _ _ h => h) (Or.inl ⟨by kernel_rfl, ?_⟩) (by assumption) ?_
  case refine_2 => (intro Wz hSw; go_simp; try with_reducible rfl)
  try simp only [Act.put, List.getElem_toArray, List.getElem_cons_succ, List.getElem_cons_zero, List.setIfInBounds_toArray, List.set_cons_zero, List.set_cons_succ]
  refine wpAnyH_take (i := 9) (v := ?_) rfl (by kernel_rfl) (by kernel_rfl) (by kernel_rfl) (fun _ _ _ h => h) (Or.inl ⟨by kernel_rfl, ?_⟩) (by assumption) ?_
  case refine_2 => (intro Wz hSw; have u := Box.cell hSw.1 6 _ rfl; go_simp; try with_reducible rfl)
  try simp only [Act.put, List.getElem_toArray, List.getElem_cons_succ, List.getElem_cons_zero, List.setIfInBounds_toArray, List.set_cons_zero, List.set_cons_succ]
  refine wpAnyH_take (i := 10) (v := .bool true) rfl (by kernel_rfl) (by kernel_rfl) (by kernel_rfl) (fun _ _ _ h => h) (Or.inl ⟨by kernel_rfl, ?_⟩) (by assumption) ?_
  case refine_1 => (intro Wz hSw; go_simp; try with_reducible rfl)
  try simp only [Act.put, List.getElem_toArray, List.getElem_cons_succ, List.getElem_cons_zero, List.setIfInBounds_toArray, List.set_cons_zero, List.set_cons_succ]
  refine wpAnyH_take (i := 11) (v := ?_) rfl (by kernel_rfl) (by kernel_rfl) (by kernel_rfl) (fun _ _ _ h => h) (Or.inl ⟨by kernel_rfl, ?_⟩) (by assumption) ?_
  case refine_2 => (intro Wz hSw; go_simp; try with_reducible rfl)
  try simp only [Act.put, List.getElem_toArray, List.getElem_cons_succ, List.getElem_cons_zero, List.setIfInBounds_toArray, List.set_cons_zero, List.set_cons_succ]
  refine wpAnyH_take (i := 12) (v := ?_) rfl (by kernel_rfl) (by kernel_rfl) (by kernel_rfl) (fun _ _ _ h => h) (Or.inl ⟨by kernel_rfl, ?_⟩) (by assumption) ?_
  case refine_2 => (intro Wz hSw; go_simp; try with_reducible rfl)
  try simp only [Act.put, List.getElem_toArray, List.getElem_cons_succ, List.getElem_cons_zero, List.setIfInBounds_toArray, List.set_cons_zero, List.set_cons_succ]
  refine wpAnyH_take (i := 13) (v := ?_) rfl (by kernel_rfl) (by kernel_rfl) (by kernel_rfl) (fun _ _ _ h => h) (Or.inl ⟨by kernel_rfl, ?_⟩) (by assumption) ?_
  case refine_2 => (intro Wz hSw; go_simp; try with_reducible rfl)
  try simp only [Act.put, List.getElem_toArray, List.getElem_cons_succ, List.getElem_cons_zero, List.setIfInBounds_toArray, List.set_cons_zero, List.set_cons_succ]
  refine wpAnyH_take (i := 14) (v := ?_) rfl (by kernel_rfl) (by kernel_rfl) (by kernel_rfl) (fun _ _ _ h => h) (Or.inl ⟨by kernel_rfl, ?_⟩) (by assumption) ?_
  case refine_2 => (intro Wz hSw; have u := Box.cell hSw.1 7 _ rfl; go_simp; try with_reducible rfl)
  try simp only [Act.put, List.getElem_toArray, List.getElem_cons_succ, List.getElem_cons_zero, List.setIfInBounds_toArray, List.set_cons_zero, List.set_cons_succ]
  refine wpAnyH_take (i := 15) (v := ?_) rfl (by kernel_rfl) (by kernel_rfl) (by kernel_rfl) (fun _ _ _ h => h) (Or.inl ⟨by kernel_rfl, ?_⟩) (by assumption) ?_
  case refine_2 => (intro Wz hSw; go_simp; try with_reducible rfl)
  try simp only [Act.put, List.getElem_toArray, List.getElem_cons_succ, List.getElem_cons_zero, List.setIfInBounds_toArray, List.set_cons_zero, List.set_cons_succ]
  refine wpAnyH_take (i := 16) (v := .bool true) rfl (by kernel_rfl) (by kernel_rfl) (by kernel_rfl) (fun _ _ _ h => h) (Or.inl ⟨by kernel_rfl, ?_⟩) (by assumption) ?_
  case refine_1 => (intro Wz hSw; go_simp; try with_reducible rfl)
  try simp only [Act.put, List.getElem_toArray, List.getElem_cons_succ, List.getElem_cons_zero, List.setIfInBounds_toArray, List.set_cons_zero, List.set_cons_succ]
  refine wpAnyH_take (i := 17) (v := ?_) rfl (by kernel_rfl) (by kernel_rfl) (by kernel_rfl) (fun _ _ _ h => h) (Or.inl ⟨by kernel_rfl, ?_⟩) (by assumption) ?_
  case refine_2 => (intro Wz hSw; go_simp; try with_reducible rfl)
  try simp only [Act.put, List.getElem_toArray, List.getElem_cons_succ, List.getElem_cons_zero, List.setIfInBounds_toArray, List.set_cons_zero, List.set_cons_succ]
  refine wpAnyH_take (i := 18) (v := ?_) rfl (by kernel_rfl) (by kernel_rfl) (by kernel_rfl) (fun _ _ _ h => h) (Or.inl ⟨by kernel_rfl, ?_⟩) (by assumption) ?_
  case refine_2 => (intro Wz hSw; go_simp; try with_reducible rfl)
  try simp only [Act.put, List.getElem_toArray, List.getElem_cons_succ, List.getElem_cons_zero, List.setIfInBounds_toArray, List.set_cons_zero, List.set_cons_succ]
  refine wpAnyH_take (i := 19) (v := ?_) rfl (by kernel_rfl) (by kernel_rfl) (by kernel_rfl) (fun _ _ _ h => h) (Or.inl ⟨by kernel_rfl, ?_⟩) (by assumption) ?_
  case refine_2 => (intro Wz hSw; go_simp; try with_reducible rfl)
  try simp only [Act.put, List.getElem_toArray, List.getElem_cons_succ, List.getElem_cons_zero, List.setIfInBounds_toArray, List.set_cons_zero, List.set_cons_succ]
  refine wpAnyH_take (i := 20) (v := ?_) rfl (by kernel_rfl) (by kernel_rfl) (by kernel_rfl) (fun _ _ _ h => h) (Or.inl ⟨by kernel_rfl, ?_⟩) (by assumption) ?_
  case refine_2 => (intro Wz hSw; have u := Box.cell hSw.1 5 _ rfl; go_simp; try with_reducible rfl)
  try simp only [Act.put, List.getElem_toArray, List.getElem_cons_succ, List.getElem_cons_zero, List.setIfInBounds_toArray, List.set_cons_zero, List.set_cons_succ]
  refine wpAnyH_take (i := 21) (v := ?_) rfl (by kernel_rfl) (by kernel_rfl) (by kernel_rfl) (fun _ _ _ h => h) (Or.inl ⟨by kernel_rfl, ?_⟩) (by assumption) ?_
  case refine_2 => (intro Wz hSw; go_simp; try with_reducible rfl)
  try simp only [Act.put, List.getElem_toArray, List.getElem_cons_succ, List.getElem_cons_zero, List.setIfInBounds_toArray, List.set_cons_zero, List.set_cons_succ]
  refine wpAnyH_ready (rs := [22]) (by kernel_rfl) (by simp) ?_
  refine AllReadyH.cons rfl (fun K hK => ?_) AllReadyH.nil
  go_simp
  refine (hS1.out v8.drew (isFlds_below HFF.out ((Below.refl _ _).drew)) (isFlds_below HW.out ((Below.refl _ _).drew))).mono ?_
  rintro e w13 ⟨rfl, hb⟩
  replace hb : Below v8.heap.size v8 w13 := ((Below.refl v8.heap.size v8).drew).trans hb
  replace HB := Lib.hid (HB.out.trans (hb.mono HB.out.size))
  replace HFF := Lib.hid (isFlds_below HFF.out hb)
  replace HY := Lib.hid (HY.out.later hb)
  replace HRF := Lib.hid (isFlds_below HRF.out hb)
  replace HZ := Lib.hid (HZ.out.later hb)
  replace HW := Lib.hid (isFlds_below HW.out hb)
  have hHeld13 : Box w13 gF 28 #[.string ⟨#[80, 85, 84]⟩, .string ⟨#[47]⟩, .int .i64 0, .string ⟨#[]⟩, .int .i64 1, .slice aF 2 cF, .string ⟨#[97, 98]⟩, .slice none 0 0] ∧ Box w13 gZ 28 #[.string ⟨#[]⟩, .string ⟨#[]⟩, .int .i64 200, .string ⟨#[]⟩, .int .i64 1, .slice aR 2 cR, .string ⟨#[]⟩, .slice none 0 0] := ⟨HY.out, HZ.out⟩
  clear hb
  go_simp
  refine hK.out _ _ (by assumption) (fun hHeld2 => ?_)
  clear hK K hHeld2
  try simp only [Act.put, List.getElem_toArray, List.getElem_cons_succ, List.getElem_cons_zero, List.setIfInBounds_toArray, List.set_cons_zero, List.set_cons_succ]
  clear hHeld
  refine wpAnyH_take (i := 23) (v := ?_) rfl (by kernel_rfl) (by kernel_rfl) (by kernel_rfl) (fun _ _ _ h => h) (Or.inl ⟨by kernel_rfl, ?_⟩) (by assumption) ?_
  case refine_2 => (intro Wz hSw; go_simp; try with_reducible rfl)
  try simp only [Act.put, List.getElem_toArray, List.getElem_cons_succ, List.getElem_cons_zero, List.setIfInBounds_toArray, List.set_cons_zero, List.set_cons_succ]
  refine wpAnyH_take (i := 24) (v := ?_) rfl (by kernel_rfl) (by kernel_rfl) (by kernel_rfl) (fun _ _ _ h => h) (Or.inl ⟨by kernel_rfl, ?_⟩) (by assumption) ?_
  case refine_2 => (intro Wz hSw; go_simp; try with_reducible rfl)
  try simp only [Act.put, List.getElem_toArray, List.getElem_cons_succ, List.getElem_cons_zero, List.setIfInBounds_toArray, List.set_cons_zero, List.set_cons_succ]
  refine wpAnyH_take (i := 25) (v := ?_) rfl (by kernel_rfl) (by kernel_rfl) (by kernel_rfl) (fun _ _ _ h => h) (Or.inl ⟨by kernel_rfl, ?_⟩) (by assumption) ?_
  case refine_2 => (intro Wz hSw; go_simp; try with_reducible rfl)
  try simp only [Act.put, List.getElem_toArray, List.getElem_cons_succ, List.getElem_cons_zero, List.setIfInBounds_toArray, List.set_cons_zero, List.set_cons_succ]
  refine wpAnyH_take (i := 26) (v := .bool true) rfl (by kernel_rfl) (by kernel_rfl) (by kernel_rfl) (fun _ _ _ h => h) (Or.inl ⟨by kernel_rfl, ?_⟩) (by assumption) ?_
  case refine_1 => (intro Wz hSw; go_simp; try with_reducible rfl)
  try simp only [Act.put, List.getElem_toArray, List.getElem_cons_succ, List.getElem_cons_zero, List.setIfInBounds_toArray, List.set_cons_zero, List.set_cons_succ]
  refine wpAnyH_take (i := 27) (v := ?_) rfl (by kernel_rfl) (by kernel_rfl) (by kernel_rfl) (fun _ _ _ h => h) (Or.inl ⟨by kernel_rfl, ?_⟩) (by assumption) ?_
  case refine_2 => (intro Wz hSw; go_simp; try with_reducible rfl)
  try simp only [Act.put, List.getElem_toArray, List.getElem_cons_succ, List.getElem_cons_zero, List.setIfInBounds_toArray, List.set_cons_zero, List.set_cons_succ]
  refine wpAnyH_take (i := 28) (v := ?_) rfl (by kernel_rfl) (by kernel_rfl) (by kernel_rfl) (fun _ _ _ h => h) (Or.inl ⟨by kernel_rfl, ?_⟩) (by assumption) ?_
  case refine_2 => (intro Wz hSw; go_simp; try with_reducible rfl)
  try simp only [Act.put, List.getElem_toArray, List.getElem_cons_succ, List.getElem_cons_zero, List.setIfInBounds_toArray, List.set_cons_zero, List.set_cons_succ]
  refine wpAnyH_take (i := 29) (v := ?_) rfl (by kernel_rfl) (by kernel_rfl) (by kernel_rfl) (fun _ _ _ h => h) (Or.inl ⟨by kernel_rfl, ?_⟩) (by assumption) ?_
  case refine_2 => (intro Wz hSw; go_simp; try with_reducible rfl)
  try simp only [Act.put, List.getElem_toArray, List.getElem_cons_succ, List.getElem_cons_zero, List.setIfInBounds_toArray, List.set_cons_zero, List.set_cons_succ]
  refine wpAnyH_take (i := 30) (v := .bool true) rfl (by kernel_rfl) (by kernel_rfl) (by kernel_rfl) (fun _ _ _ h => h) (Or.inl ⟨by kernel_rfl, ?_⟩) (by assumption) ?_
  case refine_1 => (intro Wz hSw; go_simp; try with_reducible rfl)
  try simp only [Act.put, List.getElem_toArray, List.getElem_cons_succ, List.getElem_cons_zero, List.setIfInBounds_toArray, List.set_cons_zero, List.set_cons_succ]
  refine wpAnyH_take (i := 31) (v := ?_) rfl (by kernel_rfl) (by kernel_rfl) (by kernel_rfl) (fun _ _ _ h => h) (Or.inl ⟨by kernel_rfl, ?_⟩) (by assumption) ?_
  case refine_2 => (intro Wz hSw; go_simp; try with_reducible rfl)
  try simp only [Act.put, List.getElem_toArray, List.getElem_cons_succ, List.getElem_cons_zero, List.setIfInBounds_toArray, List.set_cons_zero, List.set_cons_succ]
  refine wpAnyH_take (i := 32) (v := ?_) rfl (by kernel_rfl) (by kernel_rfl) (by kernel_rfl) (fun _ _ _ h => h) (Or.inl ⟨by kernel_rfl, ?_⟩) (by assumption) ?_
  case refine_2 => (intro Wz hSw; go_simp; try with_reducible rfl)
  try simp only [Act.put, List.getElem_toArray, List.getElem_cons_succ, List.getElem_cons_zero, List.setIfInBounds_toArray, List.set_cons_zero, List.set_cons_succ]
  refine wpAnyH_take (i := 33) (v := ?_) rfl (by kernel_rfl) (by kernel_rfl) (by kernel_rfl) (fun _ _ _ h => h) (Or.inl ⟨by kernel_rfl, ?_⟩) (by assumption) ?_
  case refine_2 => (intro Wz hSw; go_simp; try with_reducible rfl)
  try simp only [Act.put, List.getElem_toArray, List.getElem_cons_succ, List.getElem_cons_zero, List.setIfInBounds_toArray, List.set_cons_zero, List.set_cons_succ]
  refine wpAnyH_take (i := 34) (v := ?_) rfl (by kernel_rfl) (by kernel_rfl) (by kernel_rfl) (fun _ _ _ h => h) (Or.inl ⟨by kernel_rfl, ?_⟩) (by assumption) ?_
  case refine_2 => (intro Wz hSw; have u := Box.cell hSw.2 5 _ rfl; go_simp; try with_reducible rfl)
  try simp only [Act.put, List.getElem_toArray, List.getElem_cons_succ, List.getElem_cons_zero, List.setIfInBounds_toArray, List.set_cons_zero, List.set_cons_succ]
  refine wpAnyH_ready (rs := [35]) (by kernel_rfl) (by simp) ?_
  refine AllReadyH.cons rfl (fun K hK => ?_) AllReadyH.nil
  go_simp
  refine (HOne.out _ _ _).mono ?_
  rintro e w14 ⟨rfl, hb⟩
  replace HB := Lib.hid (HB.out.trans (hb.mono HB.out.size))
  replace HFF := Lib.hid (isFlds_below HFF.out hb)
  replace HY := Lib.hid (HY.out.later hb)
  replace HRF := Lib.hid (isFlds_below HRF.out hb)
  replace HZ := Lib.hid (HZ.out.later hb)
  replace HW := Lib.hid (isFlds_below HW.out hb)
  have hHeld14 : Box w14 gF 28 #[.string ⟨#[80, 85, 84]⟩, .string ⟨#[47]⟩, .int .i64 0, .string ⟨#[]⟩, .int .i64 1, .slice aF 2 cF, .string ⟨#[97, 98]⟩, .slice none 0 0] ∧ Box w14 gZ 28 #[.string ⟨#[]⟩, .string ⟨#[]⟩, .int .i64 200, .string ⟨#[]⟩, .int .i64 1, .slice aR 2 cR, .string ⟨#[]⟩, .slice none 0 0] := ⟨HY.out, HZ.out⟩
  clear hb
  go_simp
  refine hK.out _ _ (by assumption) (fun hHeld2 => ?_)
  clear hK K hHeld2
  try simp only [Act.put, List.getElem_toArray, List.getElem_cons_succ, List.getElem_cons_zero, List.setIfInBounds_toArray, List.set_cons_zero, List.set_cons_succ]
  refine wpAnyH_ready (rs := [36]) (by kernel_rfl) (by simp) ?_
  refine AllReadyH.cons rfl (fun K hK => ?_) AllReadyH.nil
  go_simp
  refine (HOne.out _ _ _).mono ?_
  rintro e w15 ⟨rfl, hb⟩
  replace HB := Lib.hid (HB.out.trans (hb.mono HB.out.size))
  replace HFF := Lib.hid (isFlds_below HFF.out hb)
  replace HY := Lib.hid (HY.out.later hb)
  replace HRF := Lib.hid (isFlds_below HRF.out hb)
  replace HZ := Lib.hid (HZ.out.later hb)
  replace HW := Lib.hid (isFlds_below HW.out hb)
  have hHeld15 : Box w15 gF 28 #[.string ⟨#[80, 85, 84]⟩, .string ⟨#[47]⟩, .int .i64 0, .string ⟨#[]⟩, .int .i64 1, .slice aF 2 cF, .string ⟨#[97, 98]⟩, .slice none 0 0] ∧ Box w15 gZ 28 #[.string ⟨#[]⟩, .string ⟨#[]⟩, .int .i64 200, .string ⟨#[]⟩, .int .i64 1, .slice aR 2 cR, .string ⟨#[]⟩, .slice none 0 0] := ⟨HY.out, HZ.out⟩
  clear hb
  go_simp
  refine hK.out _ _ (by assumption) (fun hHeld2 => ?_)
  clear hK K hHeld2
  try simp only [Act.put, List.getElem_toArray, List.getElem_cons_succ, List.getElem_cons_zero, List.setIfInBounds_toArray, List.set_cons_zero, List.set_cons_succ]
  refine wpAnyH_ready (rs := [37]) (by kernel_rfl) (by simp) ?_
  refine AllReadyH.cons rfl (fun K hK => ?_) AllReadyH.nil
  go_simp
  have hb := below_alloc w15 (Obj.cells #[.string ⟨#[69, 120, 112, 101, 99, 116]⟩, .string ⟨#[120]⟩, .string ⟨#[86, 105, 97]⟩, .string ⟨#[49, 46, 49, 32, 113]⟩] 24)
  replace HB := Lib.hid (HB.out.trans (hb.mono HB.out.size))
  replace HFF := Lib.hid (isFlds_below HFF.out hb)
  replace HY := Lib.hid (HY.out.later hb)
  replace HRF := Lib.hid (isFlds_below HRF.out hb)
  replace HZ := Lib.hid (HZ.out.later hb)
  replace HW := Lib.hid (isFlds_below HW.out hb)
  have HV := Lib.hid (isFlds_litN w15 [([69, 120, 112, 101, 99, 116], [120]), ([86, 105, 97], [49, 46, 49, 32, 113])] #[.string ⟨#[69, 120, 112, 101, 99, 116]⟩, .string ⟨#[120]⟩, .string ⟨#[86, 105, 97]⟩, .string ⟨#[49, 46, 49, 32, 113]⟩] 2 rfl rfl)
  clear hb
  generalize w15.alloc (Obj.cells #[.string ⟨#[69, 120, 112, 101, 99, 116]⟩, .string ⟨#[120]⟩, .string ⟨#[86, 105, 97]⟩, .string ⟨#[49, 46, 49, 32, 113]⟩] 24) = q1 at *
  generalize w15.heap.size = gq1 at *
  have hHeldq1 : Box q1 gF 28 #[.string ⟨#[80, 85, 84]⟩, .string ⟨#[47]⟩, .int .i64 0, .string ⟨#[]⟩, .int .i64 1, .slice aF 2 cF, .string ⟨#[97, 98]⟩, .slice none 0 0] ∧ Box q1 gZ 28 #[.string ⟨#[]⟩, .string ⟨#[]⟩, .int .i64 200, .string ⟨#[]⟩, .int .i64 1, .slice aR 2 cR, .string ⟨#[]⟩, .slice none 0 0] := ⟨HY.out, HZ.out⟩
  refine hK.out _ _ (by assumption) (fun hHeld2 => ?_)
  clear hK K hHeld2
  try simp only [Act.put, List.getElem_toArray, List.getElem_cons_succ, List.getElem_cons_zero, List.setIfInBounds_toArray, List.set_cons_zero, List.set_cons_succ]
  refine wpAnyH_ready (rs := [38]) (by kernel_rfl) (by simp) ?_
  refine AllReadyH.cons rfl (fun K hK => ?_) AllReadyH.nil
  go_simp
  refine (hS2.out _ _ HRF.out HV.out).mono ?_
  rintro e w16 ⟨rfl, hb⟩
  replace HB := Lib.hid (HB.out.trans (hb.mono HB.out.size))
  replace HFF := Lib.hid (isFlds_below HFF.out hb)
  replace HY := Lib.hid (HY.out.later hb)
  replace HRF := Lib.hid (isFlds_below HRF.out hb)
  replace HZ := Lib.hid (HZ.out.later hb)
  replace HW := Lib.hid (isFlds_below HW.out hb)
  replace HV := Lib.hid (isFlds_below HV.out hb)
  have hHeld16 : Box w16 gF 28 #[.string ⟨#[80, 85, 84]⟩, .string ⟨#[47]⟩, .int .i64 0, .string ⟨#[]⟩, .int .i64 1, .slice aF 2 cF, .string ⟨#[97, 98]⟩, .slice none 0 0] ∧ Box w16 gZ 28 #[.string ⟨#[]⟩, .string ⟨#[]⟩, .int .i64 200, .string ⟨#[]⟩, .int .i64 1, .slice aR 2 cR, .string ⟨#[]⟩, .slice none 0 0] := ⟨HY.out, HZ.out⟩
  clear hb
  go_simp
  refine hK.out _ _ (by assumption) (fun hHeld2 => ?_)
  clear hK K hHeld2
  try simp only [Act.put, List.getElem_toArray, List.getElem_cons_succ, List.getElem_cons_zero, List.setIfInBounds_toArray, List.set_cons_zero, List.set_cons_succ]
  refine wpAnyH_take (i := 39) (v := ?_) rfl (by kernel_rfl) (by kernel_rfl) (by kernel_rfl) (fun _ _ _ h => h) (Or.inl ⟨by kernel_rfl, ?_⟩) (by assumption) ?_
  case refine_2 => (intro Wz hSw; go_simp; try with_reducible rfl)
  try simp only [Act.put, List.getElem_toArray, List.getElem_cons_succ, List.getElem_cons_zero, List.setIfInBounds_toArray, List.set_cons_zero, List.set_cons_succ]
  refine wpAnyH_take (i := 40) (v := ?_) rfl (by kernel_rfl) (by kernel_rfl) (by kernel_rfl) (fun _ _ _ h => h) (Or.inl ⟨by kernel_rfl, ?_⟩) (by assumption) ?_
  case refine_2 => (intro Wz hSw; go_simp; try with_reducible rfl)
  try simp only [Act.put, List.getElem_toArray, List.getElem_cons_succ, List.getElem_cons_zero, List.setIfInBounds_toArray, List.set_cons_zero, List.set_cons_succ]
  refine wpAnyH_ready (rs := [41]) (by kernel_rfl) (by simp) ?_
  refine AllReadyH.cons rfl (fun K hK => ?_) AllReadyH.nil
  go_simp
  refine (hP1.out _).mono ?_
  rintro e w17 ⟨rfl, hb⟩
  replace HB := Lib.hid (HB.out.trans (hb.mono HB.out.size))
  replace HFF := Lib.hid (isFlds_below HFF.out hb)
  replace HY := Lib.hid (HY.out.later hb)
  replace HRF := Lib.hid (isFlds_below HRF.out hb)
  replace HZ := Lib.hid (HZ.out.later hb)
  replace HW := Lib.hid (isFlds_below HW.out hb)
  replace HV := Lib.hid (isFlds_below HV.out hb)
  have hHeld17 : Box w17 gF 28 #[.string ⟨#[80, 85, 84]⟩, .string ⟨#[47]⟩, .int .i64 0, .string ⟨#[]⟩, .int .i64 1, .slice aF 2 cF, .string ⟨#[97, 98]⟩, .slice none 0 0] ∧ Box w17 gZ 28 #[.string ⟨#[]⟩, .string ⟨#[]⟩, .int .i64 200, .string ⟨#[]⟩, .int .i64 1, .slice aR 2 cR, .string ⟨#[]⟩, .slice none 0 0] := ⟨HY.out, HZ.out⟩
  clear hb
  go_simp
  refine hK.out _ _ (by assumption) (fun hHeld2 => ?_)
  clear hK K hHeld2
  try simp only [Act.put, List.getElem_toArray, List.getElem_cons_succ, List.getElem_cons_zero, List.setIfInBounds_toArray, List.set_cons_zero, List.set_cons_succ]
  refine wpAnyH_take (i := 42) (v := ?_) rfl (by kernel_rfl) (by kernel_rfl) (by kernel_rfl) (fun _ _ _ h => h) (Or.inl ⟨by kernel_rfl, ?_⟩) (by assumption) ?_
  case refine_2 => (intro Wz hSw; go_simp; try with_reducible rfl)
  try simp only [Act.put, List.getElem_toArray, List.getElem_cons_succ, List.getElem_cons_zero, List.setIfInBounds_toArray, List.set_cons_zero, List.set_cons_succ]
  refine wpAnyH_take (i := 43) (v := ?_) rfl (by kernel_rfl) (by kernel_rfl) (by kernel_rfl) (fun _ _ _ h => h) (Or.inl ⟨by kernel_rfl, ?_⟩) (by assumption) ?_
  case refine_2 => (intro Wz hSw; go_simp; try with_reducible rfl)
  try simp only [Act.put, List.getElem_toArray, List.getElem_cons_succ, List.getElem_cons_zero, List.setIfInBounds_toArray, List.set_cons_zero, List.set_cons_succ]
  refine wpAnyH_ready (rs := [44]) (by kernel_rfl) (by simp) ?_
  refine AllReadyH.cons rfl (fun K hK => ?_) AllReadyH.nil
  go_simp
  refine (hP2.out _).mono ?_
  rintro e w18 ⟨rfl, hb⟩
  replace HB := Lib.hid (HB.out.trans (hb.mono HB.out.size))
  replace HFF := Lib.hid (isFlds_below HFF.out hb)
  replace HY := Lib.hid (HY.out.later hb)
  replace HRF := Lib.hid (isFlds_below HRF.out hb)
  replace HZ := Lib.hid (HZ.out.later hb)
  replace HW := Lib.hid (isFlds_below HW.out hb)
  replace HV := Lib.hid (isFlds_below HV.out hb)
  have hHeld18 : Box w18 gF 28 #[.string ⟨#[80, 85, 84]⟩, .string ⟨#[47]⟩, .int .i64 0, .string ⟨#[]⟩, .int .i64 1, .slice aF 2 cF, .string ⟨#[97, 98]⟩, .slice none 0 0] ∧ Box w18 gZ 28 #[.string ⟨#[]⟩, .string ⟨#[]⟩, .int .i64 200, .string ⟨#[]⟩, .int .i64 1, .slice aR 2 cR, .string ⟨#[]⟩, .slice none 0 0] := ⟨HY.out, HZ.out⟩
  clear hb
  go_simp
  refine hK.out _ _ (by assumption) (fun hHeld2 => ?_)
  clear hK K hHeld2
  try simp only [Act.put, List.getElem_toArray, List.getElem_cons_succ, List.getElem_cons_zero, List.setIfInBounds_toArray, List.set_cons_zero, List.set_cons_succ]
  refine wpAnyH_take (i := 45) (v := ?_) rfl (by kernel_rfl) (by kernel_rfl) (by kernel_rfl) (fun _ _ _ h => h) (Or.inl ⟨by kernel_rfl, ?_⟩) (by assumption) ?_
  case refine_2 => (intro Wz hSw; go_simp; try with_reducible rfl)
  try simp only [Act.put, List.getElem_toArray, List.getElem_cons_succ, List.getElem_cons_zero, List.setIfInBounds_toArray, List.set_cons_zero, List.set_cons_succ]
  refine wpAnyH_take (i := 46) (v := ?_) rfl (by kernel_rfl) (by kernel_rfl) (by kernel_rfl) (fun _ _ _ h => h) (Or.inl ⟨by kernel_rfl, ?_⟩) (by assumption) ?_
  case refine_2 => (intro Wz hSw; go_simp; try with_reducible rfl)
  try simp only [Act.put, List.getElem_toArray, List.getElem_cons_succ, List.getElem_cons_zero, List.setIfInBounds_toArray, List.set_cons_zero, List.set_cons_succ]
  refine wpAnyH_take (i := 47) (v := ?_) rfl (by kernel_rfl) (by kernel_rfl) (by kernel_rfl) (fun _ _ _ h => h) (Or.inl ⟨by kernel_rfl, ?_⟩) (by assumption) ?_
  case refine_2 => (intro Wz hSw; go_simp; try with_reducible rfl)
  try simp only [Act.put, List.getElem_toArray, List.getElem_cons_succ, List.getElem_cons_zero, List.setIfInBounds_toArray, List.set_cons_zero, List.set_cons_succ]
  refine wpAnyH_take (i := 48) (v := ?_) rfl (by kernel_rfl) (by kernel_rfl) (by kernel_rfl) (fun _ _ _ h => h) (Or.inl ⟨by kernel_rfl, ?_⟩) (by assumption) ?_
  case refine_2 => (intro Wz hSw; go_simp; try with_reducible rfl)
  try simp only [Act.put, List.getElem_toArray, List.getElem_cons_succ, List.getElem_cons_zero, List.setIfInBounds_toArray, List.set_cons_zero, List.set_cons_succ]
  refine wpAnyH_ready (rs := [49]) (by kernel_rfl) (by simp) ?_
  refine AllReadyH.cons rfl (fun K hK => ?_) AllReadyH.nil
  go_simp
  refine (hC0.out _ _ ⟨none, 0, rfl, Nat.le_refl _, fun j f hj => by simp at hj⟩).mono ?_
  rintro e w19 ⟨rfl, hb⟩
  replace HB := Lib.hid (HB.out.trans (hb.mono HB.out.size))
  replace HFF := Lib.hid (isFlds_below HFF.out hb)
  replace HY := Lib.hid (HY.out.later hb)
  replace HRF := Lib.hid (isFlds_below HRF.out hb)
  replace HZ := Lib.hid (HZ.out.later hb)
  replace HW := Lib.hid (isFlds_below HW.out hb)
  replace HV := Lib.hid (isFlds_below HV.out hb)
  have hHeld19 : Box w19 gF 28 #[.string ⟨#[80, 85, 84]⟩, .string ⟨#[47]⟩, .int .i64 0, .string ⟨#[]⟩, .int .i64 1, .slice aF 2 cF, .string ⟨#[97, 98]⟩, .slice none 0 0] ∧ Box w19 gZ 28 #[.string ⟨#[]⟩, .string ⟨#[]⟩, .int .i64 200, .string ⟨#[]⟩, .int .i64 1, .slice aR 2 cR, .string ⟨#[]⟩, .slice none 0 0] := ⟨HY.out, HZ.out⟩
  clear hb
  go_simp
  refine hK.out _ _ (by assumption) (fun hHeld2 => ?_)
  clear hK K hHeld2
  try simp only [Act.put, List.getElem_toArray, List.getElem_cons_succ, List.getElem_cons_zero, List.setIfInBounds_toArray, List.set_cons_zero, List.set_cons_succ]
  refine wpAnyH_take (i := 50) (v := ?_) rfl (by kernel_rfl) (by kernel_rfl) (by kernel_rfl) (fun _ _ _ h => h) (Or.inl ⟨by kernel_rfl, ?_⟩) (by assumption) ?_
  case refine_2 => (intro Wz hSw; go_simp; try with_reducible rfl)
  try simp only [Act.put, List.getElem_toArray, List.getElem_cons_succ, List.getElem_cons_zero, List.setIfInBounds_toArray, List.set_cons_zero, List.set_cons_succ]
  refine wpAnyH_take (i := 51) (v := ?_) rfl (by kernel_rfl) (by kernel_rfl) (by kernel_rfl) (fun _ _ _ h => h) (Or.inl ⟨by kernel_rfl, ?_⟩) (by assumption) ?_
  case refine_2 => (intro Wz hSw; go_simp; try with_reducible rfl)
  try simp only [Act.put, List.getElem_toArray, List.getElem_cons_succ, List.getElem_cons_zero, List.setIfInBounds_toArray, List.set_cons_zero, List.set_cons_succ]
  refine wpAnyH_take (i := 52) (v := ?_) rfl (by kernel_rfl) (by kernel_rfl) (by kernel_rfl) (fun _ _ _ h => h) (Or.inl ⟨by kernel_rfl, ?_⟩) (by assumption) ?_
  case refine_2 => (intro Wz hSw; go_simp; try with_reducible rfl)
  try simp only [Act.put, List.getElem_toArray, List.getElem_cons_succ, List.getElem_cons_zero, List.setIfInBounds_toArray, List.set_cons_zero, List.set_cons_succ]
  refine wpAnyH_ready (rs := [53]) (by kernel_rfl) (by simp) ?_
  refine AllReadyH.cons rfl (fun K hK => ?_) AllReadyH.nil
  go_simp
  refine (hC1.out _ _ ⟨none, 0, rfl, Nat.le_refl _, fun j f hj => by simp at hj⟩).mono ?_
  rintro e w20 ⟨rfl, hb⟩
  replace HB := Lib.hid (HB.out.trans (hb.mono HB.out.size))
  replace HFF := Lib.hid (isFlds_below HFF.out hb)
  replace HY := Lib.hid (HY.out.later hb)
  replace HRF := Lib.hid (isFlds_below HRF.out hb)
  replace HZ := Lib.hid (HZ.out.later hb)
  replace HW := Lib.hid (isFlds_below HW.out hb)
  replace HV := Lib.hid (isFlds_below HV.out hb)
  have hHeld20 : Box w20 gF 28 #[.string ⟨#[80, 85, 84]⟩, .string ⟨#[47]⟩, .int .i64 0, .string ⟨#[]⟩, .int .i64 1, .slice aF 2 cF, .string ⟨#[97, 98]⟩, .slice none 0 0] ∧ Box w20 gZ 28 #[.string ⟨#[]⟩, .string ⟨#[]⟩, .int .i64 200, .string ⟨#[]⟩, .int .i64 1, .slice aR 2 cR, .string ⟨#[]⟩, .slice none 0 0] := ⟨HY.out, HZ.out⟩
  clear hb
  go_simp
  refine hK.out _ _ (by assumption) (fun hHeld2 => ?_)
  clear hK K hHeld2
  try simp only [Act.put, List.getElem_toArray, List.getElem_cons_succ, List.getElem_cons_zero, List.setIfInBounds_toArray, List.set_cons_zero, List.set_cons_succ]
  refine wpAnyH_take (i := 54) (v := ?_) rfl (by kernel_rfl) (by kernel_rfl) (by kernel_rfl) (fun _ _ _ h => h) (Or.inl ⟨by kernel_rfl, ?_⟩) (by assumption) ?_
  case refine_2 => (intro Wz hSw; go_simp; try with_reducible rfl)
  try simp only [Act.put, List.getElem_toArray, List.getElem_cons_succ, List.getElem_cons_zero, List.setIfInBounds_toArray, List.set_cons_zero, List.set_cons_succ]
  refine wpAnyH_take (i := 55) (v := ?_) rfl (by kernel_rfl) (by kernel_rfl) (by kernel_rfl) (fun _ _ _ h => h) (Or.inl ⟨by kernel_rfl, ?_⟩) (by assumption) ?_
  case refine_2 => (intro Wz hSw; go_simp; try with_reducible rfl)
  try simp only [Act.put, List.getElem_toArray, List.getElem_cons_succ, List.getElem_cons_zero, List.setIfInBounds_toArray, List.set_cons_zero, List.set_cons_succ]
  refine wpAnyH_take (i := 56) (v := ?_) rfl (by kernel_rfl) (by kernel_rfl) (by kernel_rfl) (fun _ _ _ h => h) (Or.inl ⟨by kernel_rfl, ?_⟩) (by assumption) ?_
  case refine_2 => (intro Wz hSw; go_simp; try with_reducible rfl)
  try simp only [Act.put, List.getElem_toArray, List.getElem_cons_succ, List.getElem_cons_zero, List.setIfInBounds_toArray, List.set_cons_zero, List.set_cons_succ]
  refine wpAnyH_ready (rs := [57]) (by kernel_rfl) (by simp) ?_
  refine AllReadyH.cons rfl (fun K hK => ?_) AllReadyH.nil
  go_simp
  refine (HOne.out _ _ _).mono ?_
  rintro e w21 ⟨rfl, hb⟩
  replace HB := Lib.hid (HB.out.trans (hb.mono HB.out.size))
  replace HFF := Lib.hid (isFlds_below HFF.out hb)
  replace HY := Lib.hid (HY.out.later hb)
  replace HRF := Lib.hid (isFlds_below HRF.out hb)
  replace HZ := Lib.hid (HZ.out.later hb)
  replace HW := Lib.hid (isFlds_below HW.out hb)
  replace HV := Lib.hid (isFlds_below HV.out hb)
  have hHeld21 : Box w21 gF 28 #[.string ⟨#[80, 85, 84]⟩, .string ⟨#[47]⟩, .int .i64 0, .string ⟨#[]⟩, .int .i64 1, .slice aF 2 cF, .string ⟨#[97, 98]⟩, .slice none 0 0] ∧ Box w21 gZ 28 #[.string ⟨#[]⟩, .string ⟨#[]⟩, .int .i64 200, .string ⟨#[]⟩, .int .i64 1, .slice aR 2 cR, .string ⟨#[]⟩, .slice none 0 0] := ⟨HY.out, HZ.out⟩
  clear hb
  go_simp
  refine hK.out _ _ (by assumption) (fun hHeld2 => ?_)
  clear hK K hHeld2
  try simp only [Act.put, List.getElem_toArray, List.getElem_cons_succ, List.getElem_cons_zero, List.setIfInBounds_toArray, List.set_cons_zero, List.set_cons_succ]
  refine wpAnyH_ready (rs := [58]) (by kernel_rfl) (by simp) ?_
  refine AllReadyH.cons rfl (fun K hK => ?_) AllReadyH.nil
  go_simp
  have hb := below_alloc w21 (Obj.cells #[.string ⟨#[99, 111, 110, 110, 101, 99, 116, 105, 111, 110]⟩, .string ⟨#[75, 101, 101, 112, 45, 65, 108, 105, 118, 101]⟩] 24)
  replace HB := Lib.hid (HB.out.trans (hb.mono HB.out.size))
  replace HFF := Lib.hid (isFlds_below HFF.out hb)
  replace HY := Lib.hid (HY.out.later hb)
  replace HRF := Lib.hid (isFlds_below HRF.out hb)
  replace HZ := Lib.hid (HZ.out.later hb)
  replace HW := Lib.hid (isFlds_below HW.out hb)
  replace HV := Lib.hid (isFlds_below HV.out hb)
  have H3 := Lib.hid (isFlds_litN w21 [([99, 111, 110, 110, 101, 99, 116, 105, 111, 110], [75, 101, 101, 112, 45, 65, 108, 105, 118, 101])] #[.string ⟨#[99, 111, 110, 110, 101, 99, 116, 105, 111, 110]⟩, .string ⟨#[75, 101, 101, 112, 45, 65, 108, 105, 118, 101]⟩] 1 rfl rfl)
  clear hb
  generalize w21.alloc (Obj.cells #[.string ⟨#[99, 111, 110, 110, 101, 99, 116, 105, 111, 110]⟩, .string ⟨#[75, 101, 101, 112, 45, 65, 108, 105, 118, 101]⟩] 24) = q2 at *
  generalize w21.heap.size = gq2 at *
  have hHeldq2 : Box q2 gF 28 #[.string ⟨#[80, 85, 84]⟩, .string ⟨#[47]⟩, .int .i64 0, .string ⟨#[]⟩, .int .i64 1, .slice aF 2 cF, .string ⟨#[97, 98]⟩, .slice none 0 0] ∧ Box q2 gZ 28 #[.string ⟨#[]⟩, .string ⟨#[]⟩, .int .i64 200, .string ⟨#[]⟩, .int .i64 1, .slice aR 2 cR, .string ⟨#[]⟩, .slice none 0 0] := ⟨HY.out, HZ.out⟩
  refine hK.out _ _ (by assumption) (fun hHeld2 => ?_)
  clear hK K hHeld2
  try simp only [Act.put, List.getElem_toArray, List.getElem_cons_succ, List.getElem_cons_zero, List.setIfInBounds_toArray, List.set_cons_zero, List.set_cons_succ]
  refine wpAnyH_take (i := 59) (v := ?_) rfl (by kernel_rfl) (by kernel_rfl) (by kernel_rfl) (fun _ _ _ h => h) (Or.inl ⟨by kernel_rfl, ?_⟩) (by assumption) ?_
  case refine_2 => (intro Wz hSw; go_simp; try with_reducible rfl)
  try simp only [Act.put, List.getElem_toArray, List.getElem_cons_succ, List.getElem_cons_zero, List.setIfInBounds_toArray, List.set_cons_zero, List.set_cons_succ]
  refine wpAnyH_ready (rs := [60]) (by kernel_rfl) (by simp) ?_
  refine AllReadyH.cons rfl (fun K hK => ?_) AllReadyH.nil
  go_simp
  refine (hC2.out _ _ H3.out).mono ?_
  rintro e w22 ⟨rfl, hb⟩
  replace HB := Lib.hid (HB.out.trans (hb.mono HB.out.size))
  replace HFF := Lib.hid (isFlds_below HFF.out hb)
  replace HY := Lib.hid (HY.out.later hb)
  replace HRF := Lib.hid (isFlds_below HRF.out hb)
  replace HZ := Lib.hid (HZ.out.later hb)
  replace HW := Lib.hid (isFlds_below HW.out hb)
  replace HV := Lib.hid (isFlds_below HV.out hb)
  replace H3 := Lib.hid (isFlds_below H3.out hb)
  have hHeld22 : Box w22 gF 28 #[.string ⟨#[80, 85, 84]⟩, .string ⟨#[47]⟩, .int .i64 0, .string ⟨#[]⟩, .int .i64 1, .slice aF 2 cF, .string ⟨#[97, 98]⟩, .slice none 0 0] ∧ Box w22 gZ 28 #[.string ⟨#[]⟩, .string ⟨#[]⟩, .int .i64 200, .string ⟨#[]⟩, .int .i64 1, .slice aR 2 cR, .string ⟨#[]⟩, .slice none 0 0] := ⟨HY.out, HZ.out⟩
  clear hb
  go_simp
  refine hK.out _ _ (by assumption) (fun hHeld2 => ?_)
  clear hK K hHeld2
  try simp only [Act.put, List.getElem_toArray, List.getElem_cons_succ, List.getElem_cons_zero, List.setIfInBounds_toArray, List.set_cons_zero, List.set_cons_succ]
  refine wpAnyH_take (i := 61) (v := ?_) rfl (by kernel_rfl) (by kernel_rfl) (by kernel_rfl) (fun _ _ _ h => h) (Or.inl ⟨by kernel_rfl, ?_⟩) (by assumption) ?_
  case refine_2 => (intro Wz hSw; go_simp; try with_reducible rfl)
  try simp only [Act.put, List.getElem_toArray, List.getElem_cons_succ, List.getElem_cons_zero, List.setIfInBounds_toArray, List.set_cons_zero, List.set_cons_succ]
  refine wpAnyH_take (i := 62) (v := ?_) rfl (by kernel_rfl) (by kernel_rfl) (by kernel_rfl) (fun _ _ _ h => h) (Or.inl ⟨by kernel_rfl, ?_⟩) (by assumption) ?_
  case refine_2 => (intro Wz hSw; go_simp; try with_reducible rfl)
  try simp only [Act.put, List.getElem_toArray, List.getElem_cons_succ, List.getElem_cons_zero, List.setIfInBounds_toArray, List.set_cons_zero, List.set_cons_succ]
  refine wpAnyH_take (i := 63) (v := ?_) rfl (by kernel_rfl) (by kernel_rfl) (by kernel_rfl) (fun _ _ _ h => h) (Or.inl ⟨by kernel_rfl, ?_⟩) (by assumption) ?_
  case refine_2 => (intro Wz hSw; go_simp; try with_reducible rfl)
  try simp only [Act.put, List.getElem_toArray, List.getElem_cons_succ, List.getElem_cons_zero, List.setIfInBounds_toArray, List.set_cons_zero, List.set_cons_succ]
  refine wpAnyH_ready (rs := [64]) (by kernel_rfl) (by simp) ?_
  refine AllReadyH.cons rfl (fun K hK => ?_) AllReadyH.nil
  go_simp
  refine (HOne.out _ _ _).mono ?_
  rintro e w23 ⟨rfl, hb⟩
  replace HB := Lib.hid (HB.out.trans (hb.mono HB.out.size))
  replace HFF := Lib.hid (isFlds_below HFF.out hb)
  replace HY := Lib.hid (HY.out.later hb)
  replace HRF := Lib.hid (isFlds_below HRF.out hb)
  replace HZ := Lib.hid (HZ.out.later hb)
  replace HW := Lib.hid (isFlds_below HW.out hb)
  replace HV := Lib.hid (isFlds_below HV.out hb)
  replace H3 := Lib.hid (isFlds_below H3.out hb)
  have hHeld23 : Box w23 gF 28 #[.string ⟨#[80, 85, 84]⟩, .string ⟨#[47]⟩, .int .i64 0, .string ⟨#[]⟩, .int .i64 1, .slice aF 2 cF, .string ⟨#[97, 98]⟩, .slice none 0 0] ∧ Box w23 gZ 28 #[.string ⟨#[]⟩, .string ⟨#[]⟩, .int .i64 200, .string ⟨#[]⟩, .int .i64 1, .slice aR 2 cR, .string ⟨#[]⟩, .slice none 0 0] := ⟨HY.out, HZ.out⟩
  clear hb
  go_simp
  refine hK.out _ _ (by assumption) (fun hHeld2 => ?_)
  clear hK K hHeld2
  try simp only [Act.put, List.getElem_toArray, List.getElem_cons_succ, List.getElem_cons_zero, List.setIfInBounds_toArray, List.set_cons_zero, List.set_cons_succ]
  refine wpAnyH_ready (rs := [65]) (by kernel_rfl) (by simp) ?_
  refine AllReadyH.cons rfl (fun K hK => ?_) AllReadyH.nil
  go_simp
  have hb := below_alloc w23 (Obj.cells #[.string ⟨#[99, 111, 110, 110, 101, 99, 116, 105, 111, 110]⟩, .string ⟨#[120, 44, 67, 108, 111, 115, 101]⟩] 24)
  replace HB := Lib.hid (HB.out.trans (hb.mono HB.out.size))
  replace HFF := Lib.hid (isFlds_below HFF.out hb)
  replace HY := Lib.hid (HY.out.later hb)
  replace HRF := Lib.hid (isFlds_below HRF.out hb)
  replace HZ := Lib.hid (HZ.out.later hb)
  replace HW := Lib.hid (isFlds_below HW.out hb)
  replace HV := Lib.hid (isFlds_below HV.out hb)
  replace H3 := Lib.hid (isFlds_below H3.out hb)
  have H4 := Lib.hid (isFlds_litN w23 [([99, 111, 110, 110, 101, 99, 116, 105, 111, 110], [120, 44, 67, 108, 111, 115, 101])] #[.string ⟨#[99, 111, 110, 110, 101, 99, 116, 105, 111, 110]⟩, .string ⟨#[120, 44, 67, 108, 111, 115, 101]⟩] 1 rfl rfl)
  clear hb
  generalize w23.alloc (Obj.cells #[.string ⟨#[99, 111, 110, 110, 101, 99, 116, 105, 111, 110]⟩, .string ⟨#[120, 44, 67, 108, 111, 115, 101]⟩] 24) = q3 at *
  generalize w23.heap.size = gq3 at *
  have hHeldq3 : Box q3 gF 28 #[.string ⟨#[80, 85, 84]⟩, .string ⟨#[47]⟩, .int .i64 0, .string ⟨#[]⟩, .int .i64 1, .slice aF 2 cF, .string ⟨#[97, 98]⟩, .slice none 0 0] ∧ Box q3 gZ 28 #[.string ⟨#[]⟩, .string ⟨#[]⟩, .int .i64 200, .string ⟨#[]⟩, .int .i64 1, .slice aR 2 cR, .string ⟨#[]⟩, .slice none 0 0] := ⟨HY.out, HZ.out⟩
  refine hK.out _ _ (by assumption) (fun hHeld2 => ?_)
  clear hK K hHeld2
  try simp only [Act.put, List.getElem_toArray, List.getElem_cons_succ, List.getElem_cons_zero, List.setIfInBounds_toArray, List.set_cons_zero, List.set_cons_succ]
  refine wpAnyH_take (i := 66) (v := ?_) rfl (by kernel_rfl) (by kernel_rfl) (by kernel_rfl) (fun _ _ _ h => h) (Or.inl ⟨by kernel_rfl, ?_⟩) (by assumption) ?_
  case refine_2 => (intro Wz hSw; go_simp; try with_reducible rfl)
  try simp only [Act.put, List.getElem_toArray, List.getElem_cons_succ, List.getElem_cons_zero, List.setIfInBounds_toArray, List.set_cons_zero, List.set_cons_succ]
  refine wpAnyH_ready (rs := [67]) (by kernel_rfl) (by simp) ?_
  refine AllReadyH.cons rfl (fun K hK => ?_) AllReadyH.nil
  go_simp
  refine (hC3.out _ _ H4.out).mono ?_
  rintro e w24 ⟨rfl, hb⟩
  replace HB := Lib.hid (HB.out.trans (hb.mono HB.out.size))
  replace HFF := Lib.hid (isFlds_below HFF.out hb)
  replace HY := Lib.hid (HY.out.later hb)
  replace HRF := Lib.hid (isFlds_below HRF.out hb)
  replace HZ := Lib.hid (HZ.out.later hb)
  replace HW := Lib.hid (isFlds_below HW.out hb)
  replace HV := Lib.hid (isFlds_below HV.out hb)
  replace H3 := Lib.hid (isFlds_below H3.out hb)
  replace H4 := Lib.hid (isFlds_below H4.out hb)
  have hHeld24 : Box w24 gF 28 #[.string ⟨#[80, 85, 84]⟩, .string ⟨#[47]⟩, .int .i64 0, .string ⟨#[]⟩, .int .i64 1, .slice aF 2 cF, .string ⟨#[97, 98]⟩, .slice none 0 0] ∧ Box w24 gZ 28 #[.string ⟨#[]⟩, .string ⟨#[]⟩, .int .i64 200, .string ⟨#[]⟩, .int .i64 1, .slice aR 2 cR, .string ⟨#[]⟩, .slice none 0 0] := ⟨HY.out, HZ.out⟩
  clear hb
  go_simp
  refine hK.out _ _ (by assumption) (fun hHeld2 => ?_)
  clear hK K hHeld2
  try simp only [Act.put, List.getElem_toArray, List.getElem_cons_succ, List.getElem_cons_zero, List.setIfInBounds_toArray, List.set_cons_zero, List.set_cons_succ]
  refine wpAnyH_take (i := 68) (v := ?_) rfl (by kernel_rfl) (by kernel_rfl) (by kernel_rfl) (fun _ _ _ h => h) (Or.inl ⟨by kernel_rfl, ?_⟩) (by assumption) ?_
  case refine_2 => (intro Wz hSw; go_simp; try with_reducible rfl)
  try simp only [Act.put, List.getElem_toArray, List.getElem_cons_succ, List.getElem_cons_zero, List.setIfInBounds_toArray, List.set_cons_zero, List.set_cons_succ]
  refine wpAnyH_take (i := 69) (v := ?_) rfl (by kernel_rfl) (by kernel_rfl) (by kernel_rfl) (fun _ _ _ h => h) (Or.inl ⟨by kernel_rfl, ?_⟩) (by assumption) ?_
  case refine_2 => (intro Wz hSw; go_simp; try with_reducible rfl)
  try simp only [Act.put, List.getElem_toArray, List.getElem_cons_succ, List.getElem_cons_zero, List.setIfInBounds_toArray, List.set_cons_zero]
  refine wpAnyH_done (by kernel_rfl) ?_ _
  have HBE := HB
  clear HFF HY HRF HZ HW HV H3 H4
  go_wp2_with fail
  go_ret
  exact ⟨rfl, HBE.out⟩
end Tk
end Go.Proofs.YtcddkeekabafgaaDoor
