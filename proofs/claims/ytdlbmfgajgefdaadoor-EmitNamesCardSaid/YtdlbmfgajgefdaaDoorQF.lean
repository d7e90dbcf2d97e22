/- EmD LawEn, put together. -/
import Derived.Test.YtdlbmfgajgefdaaDoorQE
import Derived.Deep.Cut
namespace Go.Proofs.YtdlbmfgajgefdaaDoor
open Go.RowKit
namespace Tk

/-- a status's reason -/
def reaB (s : Int) : Bs :=
  if s = 200 then [79, 75]
  else if s = 304 then [78, 111, 116, 32, 77, 111, 100, 105, 102, 105, 101, 100]
  else if s = 400 then [66, 97, 100, 32, 82, 101, 113, 117, 101, 115, 116]
  else if s = 413 then [67, 111, 110, 116, 101, 110, 116, 32, 84, 111, 111, 32, 76, 97, 114, 103, 101]
  else if s = 431 then [82, 101, 113, 117, 101, 115, 116, 32, 72, 101, 97, 100, 101, 114, 32, 70, 105, 101, 108, 100, 115, 32, 84, 111, 111, 32, 76, 97, 114, 103, 101]
  else if s = 500 then [73, 110, 116, 101, 114, 110, 97, 108, 32, 83, 101, 114, 118, 101, 114, 32, 69, 114, 114, 111, 114]
  else if s = 501 then [78, 111, 116, 32, 73, 109, 112, 108, 101, 109, 101, 110, 116, 101, 100]
  else if s = 502 then [66, 97, 100, 32, 71, 97, 116, 101, 119, 97, 121]
  else if s = 503 then [83, 101, 114, 118, 105, 99, 101, 32, 85, 110, 97, 118, 97, 105, 108, 97, 98, 108, 101]
  else if s = 504 then [71, 97, 116, 101, 119, 97, 121, 32, 84, 105, 109, 101, 111, 117, 116]
  else if s = 505 then [72, 84, 84, 80, 32, 86, 101, 114, 115, 105, 111, 110, 32, 78, 111, 116, 32, 83, 117, 112, 112, 111, 114, 116, 101, 100]
  else [79, 116, 104, 101, 114]
theorem reaB_other (s : Int) (h200 : s ≠ 200) (h304 : s ≠ 304) (h400 : s ≠ 400) (h413 : s ≠ 413) (h431 : s ≠ 431) (h500 : s ≠ 500) (h501 : s ≠ 501) (h502 : s ≠ 502) (h503 : s ≠ 503) (h504 : s ≠ 504) (h505 : s ≠ 505) : reaB s = [79, 116, 104, 101, 114] := by
  unfold reaB
  rw [if_neg h200, if_neg h304, if_neg h400, if_neg h413, if_neg h431, if_neg h500, if_neg h501, if_neg h502, if_neg h503, if_neg h504, if_neg h505]
theorem reaB_len (s : Int) : (reaB s).length ≤ 40 := by
  by_cases h200 : s = 200
  · subst h200; decide
  by_cases h304 : s = 304
  · subst h304; decide
  by_cases h400 : s = 400
  · subst h400; decide
  by_cases h413 : s = 413
  · subst h413; decide
  by_cases h431 : s = 431
  · subst h431; decide
  by_cases h500 : s = 500
  · subst h500; decide
  by_cases h501 : s = 501
  · subst h501; decide
  by_cases h502 : s = 502
  · subst h502; decide
  by_cases h503 : s = 503
  · subst h503; decide
  by_cases h504 : s = 504
  · subst h504; decide
  by_cases h505 : s = 505
  · subst h505; decide
  rw [reaB_other s h200 h304 h400 h413 h431 h500 h501 h502 h503 h504 h505]; decide

set_option maxHeartbeats 4000000 in
set_option maxRecDepth 100000 in
theorem reason8_any (s : Int) (w : World) :
    Calls Tryd.prog 10 #[.int .i64 s] w fun e w' => e = .returned (.string (mkS (reaB s))) ∧ w = w' := by
  by_cases h200 : s = 200
  · subst h200
    go_enter Tryd.func10, Tryd.ntmps10
    go_wp2_with fail
    go_ret
    exact ⟨rfl, rfl⟩
  have b200 : (s == 200) = false := by simp [h200]
  by_cases h304 : s = 304
  · subst h304
    clear h200
    clear b200
    go_enter Tryd.func10, Tryd.ntmps10
    go_wp2_with fail
    go_ret
    exact ⟨rfl, rfl⟩
  have b304 : (s == 304) = false := by simp [h304]
  by_cases h400 : s = 400
  · subst h400
    clear h200 h304
    clear b200 b304
    go_enter Tryd.func10, Tryd.ntmps10
    go_wp2_with fail
    go_ret
    exact ⟨rfl, rfl⟩
  have b400 : (s == 400) = false := by simp [h400]
  by_cases h413 : s = 413
  · subst h413
    clear h200 h304 h400
    clear b200 b304 b400
    go_enter Tryd.func10, Tryd.ntmps10
    go_wp2_with fail
    go_ret
    exact ⟨rfl, rfl⟩
  have b413 : (s == 413) = false := by simp [h413]
  by_cases h431 : s = 431
  · subst h431
    clear h200 h304 h400 h413
    clear b200 b304 b400 b413
    go_enter Tryd.func10, Tryd.ntmps10
    go_wp2_with fail
    go_ret
    exact ⟨rfl, rfl⟩
  have b431 : (s == 431) = false := by simp [h431]
  by_cases h500 : s = 500
  · subst h500
    clear h200 h304 h400 h413 h431
    clear b200 b304 b400 b413 b431
    go_enter Tryd.func10, Tryd.ntmps10
    go_wp2_with fail
    go_ret
    exact ⟨rfl, rfl⟩
  have b500 : (s == 500) = false := by simp [h500]
  by_cases h501 : s = 501
  · subst h501
    clear h200 h304 h400 h413 h431 h500
    clear b200 b304 b400 b413 b431 b500
    go_enter Tryd.func10, Tryd.ntmps10
    go_wp2_with fail
    go_ret
    exact ⟨rfl, rfl⟩
  have b501 : (s == 501) = false := by simp [h501]
  by_cases h502 : s = 502
  · subst h502
    clear h200 h304 h400 h413 h431 h500 h501
    clear b200 b304 b400 b413 b431 b500 b501
    go_enter Tryd.func10, Tryd.ntmps10
    go_wp2_with fail
    go_ret
    exact ⟨rfl, rfl⟩
  have b502 : (s == 502) = false := by simp [h502]
  by_cases h503 : s = 503
  · subst h503
    clear h200 h304 h400 h413 h431 h500 h501 h502
    clear b200 b304 b400 b413 b431 b500 b501 b502
    go_enter Tryd.func10, Tryd.ntmps10
    go_wp2_with fail
    go_ret
    exact ⟨rfl, rfl⟩
  have b503 : (s == 503) = false := by simp [h503]
  by_cases h504 : s = 504
  · subst h504
    clear h200 h304 h400 h413 h431 h500 h501 h502 h503
    clear b200 b304 b400 b413 b431 b500 b501 b502 b503
    go_enter Tryd.func10, Tryd.ntmps10
    go_wp2_with fail
    go_ret
    exact ⟨rfl, rfl⟩
  have b504 : (s == 504) = false := by simp [h504]
  by_cases h505 : s = 505
  · subst h505
    clear h200 h304 h400 h413 h431 h500 h501 h502 h503 h504
    clear b200 b304 b400 b413 b431 b500 b501 b502 b503 b504
    go_enter Tryd.func10, Tryd.ntmps10
    go_wp2_with fail
    go_ret
    exact ⟨rfl, rfl⟩
  have b505 : (s == 505) = false := by simp [h505]
  have HE := Lib.hid (reaB_other s h200 h304 h400 h413 h431 h500 h501 h502 h503 h504 h505)
  rw [HE.out]
  clear HE h200 h304 h400 h413 h431 h500 h501 h502 h503 h504 h505
  go_enter Tryd.func10, Tryd.ntmps10
  go_wp2_with fail
  go_ret
  exact ⟨rfl, rfl⟩

theorem results_one {P : Program} {fn : Func} {p : Tmp} {ty : TypeId} (h : fn.results = #[.cell p ty]) (tmps : Array Value) (w : World) (g : Nat) (t : TypeId) (cs : Array Value) (fr : Nat × Nat) (d : TypeDesc)
    (hp : tmps.getD p undef = .pointer (some ⟨g, 0, none⟩)) (hg : w.heap[g]? = some (.cells cs t fr))
    (hu : P.underlying ty = some d) (hd : (match d with | .struct _ | .array _ _ => true | _ => false) = true) (hi : (P.info? ty).map (·.size) = some cs.size) :
    (results fn tmps).run P w = .ok (.agg cs) w := by
  have hp' : tmps[p]?.getD undef = .pointer (some ⟨g, 0, none⟩) := by simpa using hp
  simp [results, h, hp', asAddr, run_loadVar_row w g t ty cs fr d hg hu hd hi]

def ctyB : Bs := [67, 111, 110, 116, 101, 110, 116, 45, 84, 121, 112, 101]
def txtB : Bs := [116, 101, 120, 116, 47, 112, 108, 97, 105, 110]
/-- what Plain says -/
def plaB (s : Int) : Bs := digI s ++ [32] ++ reaB s ++ [10]
def PlPost (s : Int) (w : World) (e : Ending) (w' : World) : Prop :=
  ∃ vf, e = .returned (.agg (msgC ⟨#[]⟩ ⟨#[]⟩ s (mkS (reaB s)) 1 vf (mkS (plaB s)) (.slice none 0 0))) ∧ IsFlds w' vf [(ctyB, txtB)] ∧ Below w.heap.size w w'
theorem flds_new1 (w : World) (a b : Bs) : IsFlds (w.alloc (Obj.cells #[.string (mkS a), .string (mkS b)] 24)) (.slice (some ⟨w.heap.size, 0, none⟩) 1 1) [(a, b)] := by
  refine ⟨_, 1, rfl, Nat.le_refl _, fun j t hj => ⟨w.heap.size, 0, rfl, ?_⟩⟩
  match j, hj with
  | 0, hj => cases hj; exact ⟨by rw [World.cell?_alloc_new]; rfl, by rw [World.cell?_alloc_new]; rfl⟩
theorem flds_row {w : World} {k n c : Nat} {l : List (Bs × Bs)} {g : Nat} {cs : Array Value} (h : IsFlds w (.slice (some ⟨k, 0, none⟩) n c) l) (hk : k ≠ g) : IsFlds (w.setRow g cs) (.slice (some ⟨k, 0, none⟩) n c) l := by
  have e : (w.setRow g cs).heap[k]? = w.heap[k]? := setRow_other _ _ _ _ hk
  obtain ⟨a, cap, hv, hl, hc⟩ := h
  refine ⟨a, cap, hv, hl, fun j f hj => ?_⟩
  obtain ⟨b, o, h1, h2, h3⟩ := hc j f hj
  have hb : b = k := by
    injection hv with e1
    rw [h1] at e1
    injection e1 with e1
    injection e1 with e1
    exact e1.symm
  subst hb
  refine ⟨b, o, h1, ?_, ?_⟩
  · simp only [World.cell?] at h2 ⊢; rw [e]; exact h2
  · simp only [World.cell?] at h3 ⊢; rw [e]; exact h3

set_option maxHeartbeats 8000000 in
set_option maxRecDepth 100000 in
theorem plain8_any (s : Int) (w : World) (hTn : TenH w) (h0 : -9223372036854775808 ≤ s) (h1 : s ≤ 9223372036854775807) :
    Calls Tryd.prog 8 #[.int .i64 s] w (PlPost s w) := by
  have hs1 : (w.alloc (.cells (msgC ⟨#[]⟩ ⟨#[]⟩ 0 ⟨#[]⟩ 0 (.slice none 0 0) ⟨#[]⟩ (.slice none 0 0)) 27)).heap.size = w.heap.size + 1 := by simp
  have HX := Lib.hid (Box.new w 27 (msgC ⟨#[]⟩ ⟨#[]⟩ 0 ⟨#[]⟩ 0 (.slice none 0 0) ⟨#[]⟩ (.slice none 0 0)))
  have hB0 := below_alloc w (.cells (msgC ⟨#[]⟩ ⟨#[]⟩ 0 ⟨#[]⟩ 0 (.slice none 0 0) ⟨#[]⟩ (.slice none 0 0)) 27)
  have HX2 := Lib.hid (HX.out.later (below_alloc _ (Obj.cells #[.string (mkS ctyB), .string (mkS txtB)] 24)))
  have HF2 := flds_new1 (w.alloc (.cells (msgC ⟨#[]⟩ ⟨#[]⟩ 0 ⟨#[]⟩ 0 (.slice none 0 0) ⟨#[]⟩ (.slice none 0 0)) 27)) ctyB txtB
  have HB2 := Lib.hid (hB0.alloc hB0.size (Obj.cells #[.string (mkS ctyB), .string (mkS txtB)] 24))
  rw [hs1] at HF2
  have HFl := Lib.hid HF2
  clear HF2
  have HRe := Lib.hid (fun W : World => reason8_any s W)
  have HIt : Hid (∀ W : World, TenH W → Calls Tryd.prog 20 #[.int .i64 s] W fun e w' => e = .returned (.string (mkS (digI s))) ∧ Below W.heap.size W w') := fun W hT => by
    refine (itoaG_any s W hT h0 h1).mono ?_
    rintro e w' ⟨rfl, hb⟩
    exact ⟨rfl, hb⟩
  have HTn := Lib.hid (fun (W : World) (hb : Below w.heap.size w W) => hTn.later hb)
  have hd := digI_len s h0 h1
  have hr := reaB_len s
  have hp : mkS (plaB s) = mkS (digI s) ++ ⟨#[32]⟩ ++ mkS (reaB s) ++ ⟨#[10]⟩ := by
    rw [show (⟨#[32]⟩ : ByteArray) = mkS [32] from rfl, show (⟨#[10]⟩ : ByteArray) = mkS [10] from rfl, mkS_append, mkS_append, mkS_append]
    rfl
  unfold PlPost
  rw [hp]
  have z1 : (mkS (digI s)).size ≤ 100 := by rw [size_mkS]; exact hd
  have z2 : (mkS (reaB s)).size ≤ 40 := by rw [size_mkS]; exact hr
  clear hp hd hr hB0 hTn h0 h1
  unfold msgC at *
  generalize mkS (digI s) = D at *
  generalize mkS (reaB s) = RR at *
  have g1 : (D ++ ⟨#[32]⟩ : ByteArray).size ≤ 101 := by rw [ByteArray.size_append]; show _ + 1 ≤ _; omega
  have g2 : (D ++ ⟨#[32]⟩ ++ RR : ByteArray).size ≤ 141 := by rw [ByteArray.size_append]; omega
  go_enter Tryd.func8, Tryd.ntmps8
  go_wp2_with fail
  refine (HRe.out _).mono ?_
  rintro e w1 ⟨rfl, rfl⟩
  go_wp2_with fail
  refine (HIt.out _ (HTn.out _ HB2.out)).mono ?_
  rintro e w2 ⟨rfl, hb⟩
  have HX3 := Lib.hid (HX2.out.later hb)
  have HF3 := Lib.hid (isFlds_below HFl.out hb)
  have HB3 := Lib.hid (HB2.out.trans (hb.mono HB2.out.size))
  clear hb HX HX2 HFl HB2
  go_wp2_with (refine wpList_store_row rfl 27 _ _ rfl w.heap.size 27 _ #[.string ⟨#[]⟩, .string ⟨#[]⟩, .int .i64 s, .string RR, .int .i64 1, .slice (some ⟨w.heap.size + 1, 0, none⟩) 1 1, .string (D ++ ⟨#[32]⟩ ++ RR ++ ⟨#[10]⟩), .slice none 0 0] rfl rfl HX3.out (by kernel_rfl) rfl (all_oneCell_toArray (List.all_eq_true.1 (by rfl))) ?_)
  refine bodyPost_ret (v := .agg #[.string ⟨#[]⟩, .string ⟨#[]⟩, .int .i64 s, .string RR, .int .i64 1, .slice (some ⟨w.heap.size + 1, 0, none⟩) 1 1, .string (D ++ ⟨#[32]⟩ ++ RR ++ ⟨#[10]⟩), .slice none 0 0]) ?_ rfl ⟨_, rfl, flds_row HF3.out (Nat.ne_of_gt (Nat.lt_succ_self _)), below_setRow HB3.out (Nat.le_refl _) _⟩
  exact results_one (g := w.heap.size) (t := 27) rfl _ _ _ (0, 0) _ rfl (Box.row HX3.out) Tryd.underlying27 rfl (by kernel_rfl)

end Tk
end Go.Proofs.YtdlbmfgajgefdaaDoor
namespace Go.Proofs.YtdlbmfgajgefdaaDoor
open Go.RowKit
namespace Tk

theorem ex_n1 : rqS [71, 69, 84] (hdE [71, 69, 84] [47] 0 [] 1 [([72, 111, 115, 116], [97])] []) (hdW [71, 69, 84] [47] 0 [] 1 [([72, 111, 115, 116], [97])] []) [] = [71, 69, 84, 32, 47, 32, 72, 84, 84, 80, 47, 49, 46, 49, 13, 10, 72, 111, 115, 116, 58, 32, 97, 13, 10, 13, 10] ∧ rqE [71, 69, 84] (hdE [71, 69, 84] [47] 0 [] 1 [([72, 111, 115, 116], [97])] []) = 0 := by decide +kernel
theorem ex_n2 : rqS [80, 79, 83, 84] (hdE [80, 79, 83, 84] [47] 0 [] 1 [([72, 111, 115, 116], [97])] []) (hdW [80, 79, 83, 84] [47] 0 [] 1 [([72, 111, 115, 116], [97])] []) [] = [80, 79, 83, 84, 32, 47, 32, 72, 84, 84, 80, 47, 49, 46, 49, 13, 10, 72, 111, 115, 116, 58, 32, 97, 13, 10, 67, 111, 110, 116, 101, 110, 116, 45, 76, 101, 110, 103, 116, 104, 58, 32, 48, 13, 10, 13, 10] ∧ rqE [80, 79, 83, 84] (hdE [80, 79, 83, 84] [47] 0 [] 1 [([72, 111, 115, 116], [97])] []) = 0 := by decide +kernel
theorem ex_n3 : rqS [] (hdE [] [] 200 [] 1 [] []) (hdW [] [] 200 [] 1 [] []) [] = [] ∧ rqE [] (hdE [] [] 200 [] 1 [] []) = 4 := by decide +kernel
theorem ex_n4 : anS [71, 69, 84] (hdE [71, 69, 84] [47] 0 [] 1 [([72, 111, 115, 116], [97])] []) (hdW [71, 69, 84] [47] 0 [] 1 [([72, 111, 115, 116], [97])] []) [] 0 [71, 69, 84] = [] ∧ anE [71, 69, 84] (hdE [71, 69, 84] [47] 0 [] 1 [([72, 111, 115, 116], [97])] []) = 4 := by decide +kernel
theorem ex_n5 : anS [] (hdE [] [] 200 [] 0 [] []) (hdW [] [] 200 [] 0 [] []) [97, 98, 99] 200 [72, 69, 65, 68] = [72, 84, 84, 80, 47, 49, 46, 48, 32, 50, 48, 48, 32, 13, 10, 67, 111, 110, 116, 101, 110, 116, 45, 76, 101, 110, 103, 116, 104, 58, 32, 51, 13, 10, 13, 10] ∧ anE [] (hdE [] [] 200 [] 0 [] []) = 0 := by decide +kernel
theorem ex_n6 : ckS 1 (hdE [] [] 200 [] 1 [] [([84], [49])]) (hdW [] [] 200 [] 1 [] [([84], [49])]) [97, 98, 99] 200 2 [([84], [49])] = [72, 84, 84, 80, 47, 49, 46, 49, 32, 50, 48, 48, 32, 13, 10, 84, 114, 97, 110, 115, 102, 101, 114, 45, 69, 110, 99, 111, 100, 105, 110, 103, 58, 32, 99, 104, 117, 110, 107, 101, 100, 13, 10, 13, 10, 50, 13, 10, 97, 98, 13, 10, 49, 13, 10, 99, 13, 10, 48, 13, 10, 84, 58, 32, 49, 13, 10, 13, 10] ∧ ckE 1 (hdE [] [] 200 [] 1 [] [([84], [49])]) 200 = 0 := by decide +kernel
theorem ex_n7 : ckS 1 (hdE [] [] 204 [] 1 [] []) (hdW [] [] 204 [] 1 [] []) [] 204 2 [] = [] ∧ ckE 1 (hdE [] [] 204 [] 1 [] []) 204 = 4 := by decide +kernel
theorem ex_n8 : ckS 0 (hdE [] [] 200 [] 0 [] []) (hdW [] [] 200 [] 0 [] []) [] 200 2 [] = [] ∧ ckE 0 (hdE [] [] 200 [] 0 [] []) 200 = 4 := by decide +kernel
theorem ex_n9 : (hdE [71, 69, 84] [47] 0 [] 1 [([99, 111, 110, 116, 101, 110, 116, 45, 108, 101, 110, 103, 116, 104], [49])] []) = 6 ∧ (hdE [] [] 0 [] 0 [] []) = 4 := by decide +kernel
theorem ex_n10 : plaB 502 = [53, 48, 50, 32, 66, 97, 100, 32, 71, 97, 116, 101, 119, 97, 121, 10] ∧ reaB 502 = [66, 97, 100, 32, 71, 97, 116, 101, 119, 97, 121] ∧ reaB 504 = [71, 97, 116, 101, 119, 97, 121, 32, 84, 105, 109, 101, 111, 117, 116] ∧ reaB 7 = [79, 116, 104, 101, 114] := by decide +kernel
theorem is_n1 (a : Option Addr) (c : Nat) (W : World) (hT : Tens W) (hs : IsFlds W (.slice a 1 c) [([72, 111, 115, 116], [97])]) : Calls Tryd.prog 5 #[.agg #[.string ⟨#[71, 69, 84]⟩, .string ⟨#[47]⟩, .int .i64 0, .string ⟨#[]⟩, .int .i64 1, .slice a 1 c, .string ⟨#[]⟩, .slice none 0 0]] W fun e w' => e = .returned (.tuple #[.string ⟨#[71, 69, 84, 32, 47, 32, 72, 84, 84, 80, 47, 49, 46, 49, 13, 10, 72, 111, 115, 116, 58, 32, 97, 13, 10, 13, 10]⟩, .int .i64 0]) ∧ Below W.heap.size W w' := by
  have h := request8_any ⟨#[71, 69, 84]⟩ ⟨#[47]⟩ 0 ⟨#[]⟩ 1 (.slice a 1 c) ⟨#[]⟩ (.slice none 0 0) [([72, 111, 115, 116], [97])] [] W hT hs (zeroFlds W) (by decide) (by decide) (by decide) (by decide) (by decide) (by decide)
  change Calls _ _ _ _ (TxPost (rqS [71, 69, 84] (hdE [71, 69, 84] [47] 0 [] 1 [([72, 111, 115, 116], [97])] []) (hdW [71, 69, 84] [47] 0 [] 1 [([72, 111, 115, 116], [97])] []) []) (rqE [71, 69, 84] (hdE [71, 69, 84] [47] 0 [] 1 [([72, 111, 115, 116], [97])] [])) W) at h
  rw [ex_n1.1, ex_n1.2] at h
  exact h
theorem is_n2 (a : Option Addr) (c : Nat) (W : World) (hT : Tens W) (hs : IsFlds W (.slice a 1 c) [([72, 111, 115, 116], [97])]) : Calls Tryd.prog 5 #[.agg #[.string ⟨#[80, 79, 83, 84]⟩, .string ⟨#[47]⟩, .int .i64 0, .string ⟨#[]⟩, .int .i64 1, .slice a 1 c, .string ⟨#[]⟩, .slice none 0 0]] W fun e w' => e = .returned (.tuple #[.string ⟨#[80, 79, 83, 84, 32, 47, 32, 72, 84, 84, 80, 47, 49, 46, 49, 13, 10, 72, 111, 115, 116, 58, 32, 97, 13, 10, 67, 111, 110, 116, 101, 110, 116, 45, 76, 101, 110, 103, 116, 104, 58, 32, 48, 13, 10, 13, 10]⟩, .int .i64 0]) ∧ Below W.heap.size W w' := by
  have h := request8_any ⟨#[80, 79, 83, 84]⟩ ⟨#[47]⟩ 0 ⟨#[]⟩ 1 (.slice a 1 c) ⟨#[]⟩ (.slice none 0 0) [([72, 111, 115, 116], [97])] [] W hT hs (zeroFlds W) (by decide) (by decide) (by decide) (by decide) (by decide) (by decide)
  change Calls _ _ _ _ (TxPost (rqS [80, 79, 83, 84] (hdE [80, 79, 83, 84] [47] 0 [] 1 [([72, 111, 115, 116], [97])] []) (hdW [80, 79, 83, 84] [47] 0 [] 1 [([72, 111, 115, 116], [97])] []) []) (rqE [80, 79, 83, 84] (hdE [80, 79, 83, 84] [47] 0 [] 1 [([72, 111, 115, 116], [97])] [])) W) at h
  rw [ex_n2.1, ex_n2.2] at h
  exact h
theorem is_n3 (W : World) (hT : Tens W) : Calls Tryd.prog 5 #[.agg #[.string ⟨#[]⟩, .string ⟨#[]⟩, .int .i64 200, .string ⟨#[]⟩, .int .i64 1, .slice none 0 0, .string ⟨#[]⟩, .slice none 0 0]] W fun e w' => e = .returned (.tuple #[.string ⟨#[]⟩, .int .i64 4]) ∧ Below W.heap.size W w' := by
  have h := request8_any ⟨#[]⟩ ⟨#[]⟩ 200 ⟨#[]⟩ 1 (.slice none 0 0) ⟨#[]⟩ (.slice none 0 0) [] [] W hT (zeroFlds W) (zeroFlds W) (by decide) (by decide) (by decide) (by decide) (by decide) (by decide)
  change Calls _ _ _ _ (TxPost (rqS [] (hdE [] [] 200 [] 1 [] []) (hdW [] [] 200 [] 1 [] []) []) (rqE [] (hdE [] [] 200 [] 1 [] [])) W) at h
  rw [ex_n3.1, ex_n3.2] at h
  exact h
theorem is_n4 (a : Option Addr) (c : Nat) (W : World) (hT : Tens W) (hs : IsFlds W (.slice a 1 c) [([72, 111, 115, 116], [97])]) : Calls Tryd.prog 6 #[.agg #[.string ⟨#[71, 69, 84]⟩, .string ⟨#[47]⟩, .int .i64 0, .string ⟨#[]⟩, .int .i64 1, .slice a 1 c, .string ⟨#[]⟩, .slice none 0 0], .string ⟨#[71, 69, 84]⟩] W fun e w' => e = .returned (.tuple #[.string ⟨#[]⟩, .int .i64 4]) ∧ Below W.heap.size W w' := by
  have h := response8_any ⟨#[71, 69, 84]⟩ ⟨#[47]⟩ 0 ⟨#[]⟩ 1 (.slice a 1 c) ⟨#[]⟩ (.slice none 0 0) ⟨#[71, 69, 84]⟩ [([72, 111, 115, 116], [97])] [] W hT hs (zeroFlds W) (by decide) (by decide) (by decide) (by decide) (by decide) (by decide)
  change Calls _ _ _ _ (TxPost (anS [71, 69, 84] (hdE [71, 69, 84] [47] 0 [] 1 [([72, 111, 115, 116], [97])] []) (hdW [71, 69, 84] [47] 0 [] 1 [([72, 111, 115, 116], [97])] []) [] 0 [71, 69, 84]) (anE [71, 69, 84] (hdE [71, 69, 84] [47] 0 [] 1 [([72, 111, 115, 116], [97])] [])) W) at h
  rw [ex_n4.1, ex_n4.2] at h
  exact h
theorem is_n5 (W : World) (hT : Tens W) : Calls Tryd.prog 6 #[.agg #[.string ⟨#[]⟩, .string ⟨#[]⟩, .int .i64 200, .string ⟨#[]⟩, .int .i64 0, .slice none 0 0, .string ⟨#[97, 98, 99]⟩, .slice none 0 0], .string ⟨#[72, 69, 65, 68]⟩] W fun e w' => e = .returned (.tuple #[.string ⟨#[72, 84, 84, 80, 47, 49, 46, 48, 32, 50, 48, 48, 32, 13, 10, 67, 111, 110, 116, 101, 110, 116, 45, 76, 101, 110, 103, 116, 104, 58, 32, 51, 13, 10, 13, 10]⟩, .int .i64 0]) ∧ Below W.heap.size W w' := by
  have h := response8_any ⟨#[]⟩ ⟨#[]⟩ 200 ⟨#[]⟩ 0 (.slice none 0 0) ⟨#[97, 98, 99]⟩ (.slice none 0 0) ⟨#[72, 69, 65, 68]⟩ [] [] W hT (zeroFlds W) (zeroFlds W) (by decide) (by decide) (by decide) (by decide) (by decide) (by decide)
  change Calls _ _ _ _ (TxPost (anS [] (hdE [] [] 200 [] 0 [] []) (hdW [] [] 200 [] 0 [] []) [97, 98, 99] 200 [72, 69, 65, 68]) (anE [] (hdE [] [] 200 [] 0 [] [])) W) at h
  rw [ex_n5.1, ex_n5.2] at h
  exact h
theorem is_n6 (a : Option Addr) (c : Nat) (W : World) (hT : Tens W) (hBj : Bruijn W.heap.size W) (hs : IsFlds W (.slice a 1 c) [([84], [49])]) : Calls Tryd.prog 7 #[.agg #[.string ⟨#[]⟩, .string ⟨#[]⟩, .int .i64 200, .string ⟨#[]⟩, .int .i64 1, .slice none 0 0, .string ⟨#[97, 98, 99]⟩, .slice a 1 c], .int .i64 2] W fun e w' => e = .returned (.tuple #[.string ⟨#[72, 84, 84, 80, 47, 49, 46, 49, 32, 50, 48, 48, 32, 13, 10, 84, 114, 97, 110, 115, 102, 101, 114, 45, 69, 110, 99, 111, 100, 105, 110, 103, 58, 32, 99, 104, 117, 110, 107, 101, 100, 13, 10, 13, 10, 50, 13, 10, 97, 98, 13, 10, 49, 13, 10, 99, 13, 10, 48, 13, 10, 84, 58, 32, 49, 13, 10, 13, 10]⟩, .int .i64 0]) ∧ Below W.heap.size W w' := by
  have h := chunked8_any ⟨#[]⟩ ⟨#[]⟩ 200 ⟨#[]⟩ 1 (.slice none 0 0) ⟨#[97, 98, 99]⟩ (.slice a 1 c) 2 [] [([84], [49])] W hT hBj (zeroFlds W) hs (by decide) (by decide) (by decide) (by decide) (by decide) (by decide) (by decide)
  change Calls _ _ _ _ (TxPost (ckS 1 (hdE [] [] 200 [] 1 [] [([84], [49])]) (hdW [] [] 200 [] 1 [] [([84], [49])]) [97, 98, 99] 200 2 [([84], [49])]) (ckE 1 (hdE [] [] 200 [] 1 [] [([84], [49])]) 200) W) at h
  rw [ex_n6.1, ex_n6.2] at h
  exact h
theorem is_n7 (W : World) (hT : Tens W) (hBj : Bruijn W.heap.size W) : Calls Tryd.prog 7 #[.agg #[.string ⟨#[]⟩, .string ⟨#[]⟩, .int .i64 204, .string ⟨#[]⟩, .int .i64 1, .slice none 0 0, .string ⟨#[]⟩, .slice none 0 0], .int .i64 2] W fun e w' => e = .returned (.tuple #[.string ⟨#[]⟩, .int .i64 4]) ∧ Below W.heap.size W w' := by
  have h := chunked8_any ⟨#[]⟩ ⟨#[]⟩ 204 ⟨#[]⟩ 1 (.slice none 0 0) ⟨#[]⟩ (.slice none 0 0) 2 [] [] W hT hBj (zeroFlds W) (zeroFlds W) (by decide) (by decide) (by decide) (by decide) (by decide) (by decide) (by decide)
  change Calls _ _ _ _ (TxPost (ckS 1 (hdE [] [] 204 [] 1 [] []) (hdW [] [] 204 [] 1 [] []) [] 204 2 []) (ckE 1 (hdE [] [] 204 [] 1 [] []) 204) W) at h
  rw [ex_n7.1, ex_n7.2] at h
  exact h
theorem is_n8 (W : World) (hT : Tens W) (hBj : Bruijn W.heap.size W) : Calls Tryd.prog 7 #[.agg #[.string ⟨#[]⟩, .string ⟨#[]⟩, .int .i64 200, .string ⟨#[]⟩, .int .i64 0, .slice none 0 0, .string ⟨#[]⟩, .slice none 0 0], .int .i64 2] W fun e w' => e = .returned (.tuple #[.string ⟨#[]⟩, .int .i64 4]) ∧ Below W.heap.size W w' := by
  have h := chunked8_any ⟨#[]⟩ ⟨#[]⟩ 200 ⟨#[]⟩ 0 (.slice none 0 0) ⟨#[]⟩ (.slice none 0 0) 2 [] [] W hT hBj (zeroFlds W) (zeroFlds W) (by decide) (by decide) (by decide) (by decide) (by decide) (by decide) (by decide)
  change Calls _ _ _ _ (TxPost (ckS 0 (hdE [] [] 200 [] 0 [] []) (hdW [] [] 200 [] 0 [] []) [] 200 2 []) (ckE 0 (hdE [] [] 200 [] 0 [] []) 200) W) at h
  rw [ex_n8.1, ex_n8.2] at h
  exact h
theorem is_n9 (a : Option Addr) (c : Nat) (W : World) (hT : Tens W) (hs : IsFlds W (.slice a 1 c) [([99, 111, 110, 116, 101, 110, 116, 45, 108, 101, 110, 103, 116, 104], [49])]) : Calls Tryd.prog 9 #[.agg #[.string ⟨#[71, 69, 84]⟩, .string ⟨#[47]⟩, .int .i64 0, .string ⟨#[]⟩, .int .i64 1, .slice a 1 c, .string ⟨#[]⟩, .slice none 0 0]] W fun e w' => e = .returned (.int .i64 6) ∧ Below W.heap.size W w' := by
  have h := check8_any ⟨#[71, 69, 84]⟩ ⟨#[47]⟩ 0 ⟨#[]⟩ 1 (.slice a 1 c) ⟨#[]⟩ (.slice none 0 0) [([99, 111, 110, 116, 101, 110, 116, 45, 108, 101, 110, 103, 116, 104], [49])] [] W hT hs (zeroFlds W) (by decide) (by decide) (by decide) (by decide) (by decide)
  change Calls _ _ _ _ (fun e w' => e = .returned (.int .i64 (hdE [71, 69, 84] [47] 0 [] 1 [([99, 111, 110, 116, 101, 110, 116, 45, 108, 101, 110, 103, 116, 104], [49])] [])) ∧ Below W.heap.size W w') at h
  rw [ex_n9.1] at h
  exact h
theorem is_n9b (W : World) (hT : Tens W) : Calls Tryd.prog 9 #[.agg #[.string ⟨#[]⟩, .string ⟨#[]⟩, .int .i64 0, .string ⟨#[]⟩, .int .i64 0, .slice none 0 0, .string ⟨#[]⟩, .slice none 0 0]] W fun e w' => e = .returned (.int .i64 4) ∧ Below W.heap.size W w' := by
  have h := check8_any ⟨#[]⟩ ⟨#[]⟩ 0 ⟨#[]⟩ 0 (.slice none 0 0) ⟨#[]⟩ (.slice none 0 0) [] [] W hT (zeroFlds W) (zeroFlds W) (by decide) (by decide) (by decide) (by decide) (by decide)
  change Calls _ _ _ _ (fun e w' => e = .returned (.int .i64 (hdE [] [] 0 [] 0 [] [])) ∧ Below W.heap.size W w') at h
  rw [ex_n9.2] at h
  exact h
theorem is_n10 (W : World) (hT : TenH W) : Calls Tryd.prog 8 #[.int .i64 502] W fun e w' => ∃ a n c, e = .returned (.agg #[.string ⟨#[]⟩, .string ⟨#[]⟩, .int .i64 502, .string ⟨#[66, 97, 100, 32, 71, 97, 116, 101, 119, 97, 121]⟩, .int .i64 1, .slice a n c, .string ⟨#[53, 48, 50, 32, 66, 97, 100, 32, 71, 97, 116, 101, 119, 97, 121, 10]⟩, .slice none 0 0]) ∧ Below W.heap.size W w' := by
  refine (plain8_any 502 W hT (by decide) (by decide)).mono ?_
  rintro e w' ⟨vf, rfl, hf, hb⟩
  obtain ⟨a, c, hv, -⟩ := hf
  subst hv
  rw [ex_n10.1, ex_n10.2.1]
  exact ⟨a, _, c, rfl, hb⟩
theorem is_n11 (W : World) : Calls Tryd.prog 10 #[.int .i64 504] W fun e w' => e = .returned (.string ⟨#[71, 97, 116, 101, 119, 97, 121, 32, 84, 105, 109, 101, 111, 117, 116]⟩) ∧ W = w' := by
  have h := reason8_any 504 W
  rw [ex_n10.2.2.1] at h
  exact h
theorem is_n12 (W : World) : Calls Tryd.prog 10 #[.int .i64 7] W fun e w' => e = .returned (.string ⟨#[79, 116, 104, 101, 114]⟩) ∧ W = w' := by
  have h := reason8_any 7 W
  rw [ex_n10.2.2.2] at h
  exact h

theorem flds_same {w w' : World} {k n c : Nat} {l : List (Bs × Bs)} (h : IsFlds w (.slice (some ⟨k, 0, none⟩) n c) l) (e : w'.heap[k]? = w.heap[k]?) : IsFlds w' (.slice (some ⟨k, 0, none⟩) n c) l := by
  obtain ⟨a, cap, hv, hl, hc⟩ := h
  refine ⟨a, cap, hv, hl, fun j f hj => ?_⟩
  obtain ⟨b, o, h1, h2, h3⟩ := hc j f hj
  have hb : b = k := by
    injection hv with e1
    rw [h1] at e1
    injection e1 with e1
    injection e1 with e1
    exact e1.symm
  subst hb
  refine ⟨b, o, h1, ?_, ?_⟩
  · simp only [World.cell?] at h2 ⊢; rw [e]; exact h2
  · simp only [World.cell?] at h3 ⊢; rw [e]; exact h3

set_option maxHeartbeats 64000000 in
set_option maxRecDepth 100000 in
theorem emitnames_any (w : World) (hTn : TenH w) (hBj : Bruijn w.heap.size w) : Calls Tryd.prog 3 #[] w fun e w' => e = .returned (.bool true) ∧ Below w.heap.size w w' := by
  have HTe := Lib.hid (fun (W : World) (hb : Below w.heap.size w W) => show Tens W from ⟨(hTn.later hb).big, (hTn.later hb).tab⟩)
  have HTh := Lib.hid (fun (W : World) (hb : Below w.heap.size w W) => hTn.later hb)
  have HBr := Lib.hid (fun (W : World) (hb : Below w.heap.size w W) => (hBj.later hb).top)
  have HLv := Lib.hid (lives08_any w (HTe.out w (Below.refl _ _)))
  clear hTn hBj
  go_enter Tryd.func3, Tryd.ntmps3
  go_wp2_with fail
  refine HLv.out.mono ?_
  rintro e w1 ⟨rfl, hb1⟩
  have HN := Lib.hid (Box.new (w1.alloc (Obj.cells #[.string ⟨#[72, 111, 115, 116]⟩, .string ⟨#[97]⟩] 24)) 27 #[.string ⟨#[]⟩, .string ⟨#[]⟩, .int .i64 0, .string ⟨#[]⟩, .int .i64 0, .slice none 0 0, .string ⟨#[]⟩, .slice none 0 0])
  have hsz : (w1.alloc (Obj.cells #[.string ⟨#[72, 111, 115, 116]⟩, .string ⟨#[97]⟩] 24)).heap.size = w1.heap.size + 1 := by simp
  rw [hsz] at HN
  have hbA := below_setRow ((below_alloc w1 (Obj.cells #[.string ⟨#[72, 111, 115, 116]⟩, .string ⟨#[97]⟩] 24)).alloc (below_alloc w1 (Obj.cells #[.string ⟨#[72, 111, 115, 116]⟩, .string ⟨#[97]⟩] 24)).size (.cells #[.string ⟨#[]⟩, .string ⟨#[]⟩, .int .i64 0, .string ⟨#[]⟩, .int .i64 0, .slice none 0 0, .string ⟨#[]⟩, .slice none 0 0] 27)) (Nat.le_succ w1.heap.size) #[.string ⟨#[71, 69, 84]⟩, .string ⟨#[47]⟩, .int .i64 0, .string ⟨#[]⟩, .int .i64 1, .slice (some ⟨w1.heap.size, 0, none⟩) 1 1, .string ⟨#[]⟩, .slice none 0 0]
  have hff : IsFlds (w1.alloc (Obj.cells #[.string ⟨#[72, 111, 115, 116]⟩, .string ⟨#[97]⟩] 24)) (.slice (some ⟨w1.heap.size, 0, none⟩) 1 1) [([72, 111, 115, 116], [97])] := flds_new1 w1 [72, 111, 115, 116] [97]
  have HFs := Lib.hid (flds_row (g := w1.heap.size + 1) (cs := #[.string ⟨#[71, 69, 84]⟩, .string ⟨#[47]⟩, .int .i64 0, .string ⟨#[]⟩, .int .i64 1, .slice (some ⟨w1.heap.size, 0, none⟩) 1 1, .string ⟨#[]⟩, .slice none 0 0]) (isFlds_below hff (below_alloc _ (.cells #[.string ⟨#[]⟩, .string ⟨#[]⟩, .int .i64 0, .string ⟨#[]⟩, .int .i64 0, .slice none 0 0, .string ⟨#[]⟩, .slice none 0 0] 27))) (Nat.ne_of_lt (Nat.lt_succ_self _)))
  have HG := Lib.hid (Box.row (cs := #[.string ⟨#[71, 69, 84]⟩, .string ⟨#[47]⟩, .int .i64 0, .string ⟨#[]⟩, .int .i64 1, .slice (some ⟨w1.heap.size, 0, none⟩) 1 1, .string ⟨#[]⟩, .slice none 0 0]) HN.out)
  have HB2 := Lib.hid (hb1.trans (hbA.mono hb1.size))
  clear hb1 hbA hff hsz HLv
  go_upto_region 4 with (refine wpList_store_row rfl 27 _ _ rfl (w1.heap.size + 1) 27 _ #[.string ⟨#[71, 69, 84]⟩, .string ⟨#[47]⟩, .int .i64 0, .string ⟨#[]⟩, .int .i64 1, .slice (some ⟨w1.heap.size, 0, none⟩) 1 1, .string ⟨#[]⟩, .slice none 0 0] rfl rfl HN.out (by kernel_rfl) rfl (all_oneCell_toArray (List.all_eq_true.1 (by rfl))) ?_)
  generalize ((w1.alloc (Obj.cells #[.string ⟨#[72, 111, 115, 116]⟩, .string ⟨#[97]⟩] 24)).alloc (.cells #[.string ⟨#[]⟩, .string ⟨#[]⟩, .int .i64 0, .string ⟨#[]⟩, .int .i64 0, .slice none 0 0, .string ⟨#[]⟩, .slice none 0 0] 27)).setRow (w1.heap.size + 1) #[.string ⟨#[71, 69, 84]⟩, .string ⟨#[47]⟩, .int .i64 0, .string ⟨#[]⟩, .int .i64 1, .slice (some ⟨w1.heap.size, 0, none⟩) 1 1, .string ⟨#[]⟩, .slice none 0 0] = W2 at *
  generalize w1.heap.size = pF at *
  clear HN
  have c0 := HG.out.cell 0 _ rfl
  have c1 := HG.out.cell 1 _ rfl
  have c2 := HG.out.cell 2 _ rfl
  have c3 := HG.out.cell 3 _ rfl
  have c4 := HG.out.cell 4 _ rfl
  have c5 := HG.out.cell 5 _ rfl
  have c6 := HG.out.cell 6 _ rfl
  have c7 := HG.out.cell 7 _ rfl
  have HN := Lib.hid (Box.new W2 27 #[.string ⟨#[]⟩, .string ⟨#[]⟩, .int .i64 0, .string ⟨#[]⟩, .int .i64 0, .slice none 0 0, .string ⟨#[]⟩, .slice none 0 0])
  have hb2 := below_setRow (below_alloc W2 (.cells #[.string ⟨#[]⟩, .string ⟨#[]⟩, .int .i64 0, .string ⟨#[]⟩, .int .i64 0, .slice none 0 0, .string ⟨#[]⟩, .slice none 0 0] 27)) (Nat.le_refl _) #[.string ⟨#[71, 69, 84]⟩, .string ⟨#[47]⟩, .int .i64 0, .string ⟨#[]⟩, .int .i64 1, .slice (some ⟨pF, 0, none⟩) 1 1, .string ⟨#[]⟩, .slice none 0 0]
  have HP := Lib.hid (Box.row (cs := #[.string ⟨#[71, 69, 84]⟩, .string ⟨#[47]⟩, .int .i64 0, .string ⟨#[]⟩, .int .i64 1, .slice (some ⟨pF, 0, none⟩) 1 1, .string ⟨#[]⟩, .slice none 0 0]) HN.out)
  have HG3 := Lib.hid (HG.out.later hb2)
  have HF3 := Lib.hid (isFlds_below HFs.out hb2)
  have HB3 := Lib.hid (HB2.out.trans (hb2.mono HB2.out.size))
  have hlt := HG.out.lt
  have hle := HB2.out.size
  clear hb2 HFs HG HB2
  go_upto_region 5 with (refine wpList_store_row rfl 27 _ _ rfl W2.heap.size 27 _ #[.string ⟨#[71, 69, 84]⟩, .string ⟨#[47]⟩, .int .i64 0, .string ⟨#[]⟩, .int .i64 1, .slice (some ⟨pF, 0, none⟩) 1 1, .string ⟨#[]⟩, .slice none 0 0] rfl rfl HN.out (by kernel_rfl) rfl (all_oneCell_toArray (List.all_eq_true.1 (by rfl))) ?_)
  generalize (W2.alloc (.cells #[.string ⟨#[]⟩, .string ⟨#[]⟩, .int .i64 0, .string ⟨#[]⟩, .int .i64 0, .slice none 0 0, .string ⟨#[]⟩, .slice none 0 0] 27)).setRow W2.heap.size #[.string ⟨#[71, 69, 84]⟩, .string ⟨#[47]⟩, .int .i64 0, .string ⟨#[]⟩, .int .i64 1, .slice (some ⟨pF, 0, none⟩) 1 1, .string ⟨#[]⟩, .slice none 0 0] = W3 at *
  generalize W2.heap.size = pP at *
  clear HN c0 c1 c2 c3 c4 c5 c6 c7
  have c0 := HP.out.cell 0 _ rfl
  have f0 : W3.frozen? ⟨pP, 0, none⟩ = false := Lib.frozen_of_heap HP.out 0
  have hn1 : pF + 1 ≠ pP := by omega
  have hn2 : pF ≠ pP := by omega
  have HP4 := Lib.hid (show Box (W3.setCell ⟨pP, 0, none⟩ (.string ⟨#[80, 79, 83, 84]⟩)) pP 27 #[.string ⟨#[80, 79, 83, 84]⟩, .string ⟨#[47]⟩, .int .i64 0, .string ⟨#[]⟩, .int .i64 1, .slice (some ⟨pF, 0, none⟩) 1 1, .string ⟨#[]⟩, .slice none 0 0] from heap_setCell_same W3 pP 0 _ 27 (.string ⟨#[80, 79, 83, 84]⟩) HP.out)
  have HG4 := Lib.hid (show Box (W3.setCell ⟨pP, 0, none⟩ (.string ⟨#[80, 79, 83, 84]⟩)) (pF + 1) 27 #[.string ⟨#[71, 69, 84]⟩, .string ⟨#[47]⟩, .int .i64 0, .string ⟨#[]⟩, .int .i64 1, .slice (some ⟨pF, 0, none⟩) 1 1, .string ⟨#[]⟩, .slice none 0 0] from (Below.heap_setCell W3 ⟨pP, 0, none⟩ (.string ⟨#[80, 79, 83, 84]⟩) (pF + 1) hn1).trans HG3.out)
  have HF4 := Lib.hid (flds_same HF3.out (Below.heap_setCell W3 ⟨pP, 0, none⟩ (.string ⟨#[80, 79, 83, 84]⟩) pF hn2))
  have HB4 := Lib.hid (HB3.out.setCell (p := ⟨pP, 0, none⟩) hle (.string ⟨#[80, 79, 83, 84]⟩))
  clear HP HG3 HF3 HB3 hlt hle hn1 hn2
  go_upto_region 6 with (fail)
  generalize W3.setCell ⟨pP, 0, none⟩ (.string ⟨#[80, 79, 83, 84]⟩) = W4 at *
  clear c0 f0
  have c0 := HG4.out.cell 0 _ rfl
  have c1 := HG4.out.cell 1 _ rfl
  have c2 := HG4.out.cell 2 _ rfl
  have c3 := HG4.out.cell 3 _ rfl
  have c4 := HG4.out.cell 4 _ rfl
  have c5 := HG4.out.cell 5 _ rfl
  have c6 := HG4.out.cell 6 _ rfl
  have c7 := HG4.out.cell 7 _ rfl
  go_wp2_with fail
  refine (is_n1 _ _ _ (HTe.out _ HB4.out) HF4.out).mono ?_
  rintro e w5 ⟨rfl, hb⟩
  have HG5 := Lib.hid (HG4.out.later hb)
  have HP5 := Lib.hid (HP4.out.later hb)
  have HF5 := Lib.hid (isFlds_below HF4.out hb)
  have HB5 := Lib.hid (HB4.out.trans (hb.mono HB4.out.size))
  clear hb HG4 HP4 HF4
  try clear c0 c1 c2 c3 c4 c5 c6 c7
  have c0 := HP5.out.cell 0 _ rfl
  have c1 := HP5.out.cell 1 _ rfl
  have c2 := HP5.out.cell 2 _ rfl
  have c3 := HP5.out.cell 3 _ rfl
  have c4 := HP5.out.cell 4 _ rfl
  have c5 := HP5.out.cell 5 _ rfl
  have c6 := HP5.out.cell 6 _ rfl
  have c7 := HP5.out.cell 7 _ rfl
  go_wp2_with fail
  refine (is_n2 _ _ _ (HTe.out _ HB5.out) HF5.out).mono ?_
  rintro e w6 ⟨rfl, hb⟩
  have HG6 := Lib.hid (HG5.out.later hb)
  have HF6 := Lib.hid (isFlds_below HF5.out hb)
  have HB6 := Lib.hid (HB5.out.trans (hb.mono HB5.out.size))
  clear hb HG5 HF5
  try clear c0 c1 c2 c3 c4 c5 c6 c7
  go_wp2_with fail
  refine (is_n3 _ (HTe.out _ HB6.out)).mono ?_
  rintro e w7 ⟨rfl, hb⟩
  have HG7 := Lib.hid (HG6.out.later hb)
  have HF7 := Lib.hid (isFlds_below HF6.out hb)
  have HB7 := Lib.hid (HB6.out.trans (hb.mono HB6.out.size))
  clear hb HG6 HF6
  try clear c0 c1 c2 c3 c4 c5 c6 c7
  have c0 := HG7.out.cell 0 _ rfl
  have c1 := HG7.out.cell 1 _ rfl
  have c2 := HG7.out.cell 2 _ rfl
  have c3 := HG7.out.cell 3 _ rfl
  have c4 := HG7.out.cell 4 _ rfl
  have c5 := HG7.out.cell 5 _ rfl
  have c6 := HG7.out.cell 6 _ rfl
  have c7 := HG7.out.cell 7 _ rfl
  go_wp2_with fail
  refine (is_n4 _ _ _ (HTe.out _ HB7.out) HF7.out).mono ?_
  rintro e w8 ⟨rfl, hb⟩
  have HG8 := Lib.hid (HG7.out.later hb)
  have HF8 := Lib.hid (isFlds_below HF7.out hb)
  have HB8 := Lib.hid (HB7.out.trans (hb.mono HB7.out.size))
  clear hb HG7 HF7
  try clear c0 c1 c2 c3 c4 c5 c6 c7
  go_wp2_with fail
  refine (is_n5 _ (HTe.out _ HB8.out)).mono ?_
  rintro e w9 ⟨rfl, hb⟩
  have HG9 := Lib.hid (HG8.out.later hb)
  have HF9 := Lib.hid (isFlds_below HF8.out hb)
  have HB9 := Lib.hid (HB8.out.trans (hb.mono HB8.out.size))
  clear hb HG8 HF8
  try clear c0 c1 c2 c3 c4 c5 c6 c7
  have c0 := HG9.out.cell 0 _ rfl
  have c1 := HG9.out.cell 1 _ rfl
  have c2 := HG9.out.cell 2 _ rfl
  have c3 := HG9.out.cell 3 _ rfl
  have c4 := HG9.out.cell 4 _ rfl
  have c5 := HG9.out.cell 5 _ rfl
  have c6 := HG9.out.cell 6 _ rfl
  have c7 := HG9.out.cell 7 _ rfl
  have HN := Lib.hid (Box.new w9 27 #[.string ⟨#[]⟩, .string ⟨#[]⟩, .int .i64 0, .string ⟨#[]⟩, .int .i64 0, .slice none 0 0, .string ⟨#[]⟩, .slice none 0 0])
  have hb2 := below_setRow (below_alloc w9 (.cells #[.string ⟨#[]⟩, .string ⟨#[]⟩, .int .i64 0, .string ⟨#[]⟩, .int .i64 0, .slice none 0 0, .string ⟨#[]⟩, .slice none 0 0] 27)) (Nat.le_refl _) #[.string ⟨#[71, 69, 84]⟩, .string ⟨#[47]⟩, .int .i64 0, .string ⟨#[]⟩, .int .i64 1, .slice (some ⟨pF, 0, none⟩) 1 1, .string ⟨#[]⟩, .slice none 0 0]
  have HX := Lib.hid (Box.row (cs := #[.string ⟨#[71, 69, 84]⟩, .string ⟨#[47]⟩, .int .i64 0, .string ⟨#[]⟩, .int .i64 1, .slice (some ⟨pF, 0, none⟩) 1 1, .string ⟨#[]⟩, .slice none 0 0]) HN.out)
  have HB10 := Lib.hid (HB9.out.trans (hb2.mono HB9.out.size))
  have hle := HB9.out.size
  clear hb2 HG9 HF9
  go_upto_region 12 with (refine wpList_store_row rfl 27 _ _ rfl w9.heap.size 27 _ #[.string ⟨#[71, 69, 84]⟩, .string ⟨#[47]⟩, .int .i64 0, .string ⟨#[]⟩, .int .i64 1, .slice (some ⟨pF, 0, none⟩) 1 1, .string ⟨#[]⟩, .slice none 0 0] rfl rfl HN.out (by kernel_rfl) rfl (all_oneCell_toArray (List.all_eq_true.1 (by rfl))) ?_)
  generalize (w9.alloc (.cells #[.string ⟨#[]⟩, .string ⟨#[]⟩, .int .i64 0, .string ⟨#[]⟩, .int .i64 0, .slice none 0 0, .string ⟨#[]⟩, .slice none 0 0] 27)).setRow w9.heap.size #[.string ⟨#[71, 69, 84]⟩, .string ⟨#[47]⟩, .int .i64 0, .string ⟨#[]⟩, .int .i64 1, .slice (some ⟨pF, 0, none⟩) 1 1, .string ⟨#[]⟩, .slice none 0 0] = W10 at *
  generalize w9.heap.size = pB at *
  clear HN c0 c1 c2 c3 c4 c5 c6 c7 HB9
  have hx := HX.out.later (below_alloc W10 (Obj.cells #[.string ⟨#[99, 111, 110, 116, 101, 110, 116, 45, 108, 101, 110, 103, 116, 104]⟩, .string ⟨#[49]⟩] 24))
  have c5 := hx.cell 5 _ rfl
  have f5 : (W10.alloc (Obj.cells #[.string ⟨#[99, 111, 110, 116, 101, 110, 116, 45, 108, 101, 110, 103, 116, 104]⟩, .string ⟨#[49]⟩] 24)).frozen? ⟨pB, 5, none⟩ = false := Lib.frozen_of_heap hx 5
  have hn : W10.heap.size ≠ pB := Nat.ne_of_gt HX.out.lt
  have HX11 := Lib.hid (show Box ((W10.alloc (Obj.cells #[.string ⟨#[99, 111, 110, 116, 101, 110, 116, 45, 108, 101, 110, 103, 116, 104]⟩, .string ⟨#[49]⟩] 24)).setCell ⟨pB, 5, none⟩ (.slice (some ⟨W10.heap.size, 0, none⟩) 1 1)) pB 27 #[.string ⟨#[71, 69, 84]⟩, .string ⟨#[47]⟩, .int .i64 0, .string ⟨#[]⟩, .int .i64 1, .slice (some ⟨W10.heap.size, 0, none⟩) 1 1, .string ⟨#[]⟩, .slice none 0 0] from heap_setCell_same (W10.alloc (Obj.cells #[.string ⟨#[99, 111, 110, 116, 101, 110, 116, 45, 108, 101, 110, 103, 116, 104]⟩, .string ⟨#[49]⟩] 24)) pB 5 _ 27 (.slice (some ⟨W10.heap.size, 0, none⟩) 1 1) hx)
  have HF11 := Lib.hid (flds_same (show IsFlds (W10.alloc (Obj.cells #[.string ⟨#[99, 111, 110, 116, 101, 110, 116, 45, 108, 101, 110, 103, 116, 104]⟩, .string ⟨#[49]⟩] 24)) (.slice (some ⟨W10.heap.size, 0, none⟩) 1 1) [([99, 111, 110, 116, 101, 110, 116, 45, 108, 101, 110, 103, 116, 104], [49])] from flds_new1 W10 [99, 111, 110, 116, 101, 110, 116, 45, 108, 101, 110, 103, 116, 104] [49]) (Below.heap_setCell (W10.alloc (Obj.cells #[.string ⟨#[99, 111, 110, 116, 101, 110, 116, 45, 108, 101, 110, 103, 116, 104]⟩, .string ⟨#[49]⟩] 24)) ⟨pB, 5, none⟩ (.slice (some ⟨W10.heap.size, 0, none⟩) 1 1) W10.heap.size hn))
  have HB11 := Lib.hid ((HB10.out.alloc HB10.out.size (Obj.cells #[.string ⟨#[99, 111, 110, 116, 101, 110, 116, 45, 108, 101, 110, 103, 116, 104]⟩, .string ⟨#[49]⟩] 24)).setCell (p := ⟨pB, 5, none⟩) hle (.slice (some ⟨W10.heap.size, 0, none⟩) 1 1))
  clear hx hn hle HX HB10
  go_upto_region 13 with (fail)
  generalize (W10.alloc (Obj.cells #[.string ⟨#[99, 111, 110, 116, 101, 110, 116, 45, 108, 101, 110, 103, 116, 104]⟩, .string ⟨#[49]⟩] 24)).setCell ⟨pB, 5, none⟩ (.slice (some ⟨W10.heap.size, 0, none⟩) 1 1) = W11 at *
  generalize W10.heap.size = pC at *
  clear c5 f5
  have HX12 := Lib.hid (HX11.out.later (below_alloc W11 (Obj.cells #[.string ⟨#[84]⟩, .string ⟨#[49]⟩] 24)))
  have HF12 := Lib.hid (isFlds_below HF11.out (below_alloc W11 (Obj.cells #[.string ⟨#[84]⟩, .string ⟨#[49]⟩] 24)))
  have HB12 := Lib.hid (HB11.out.alloc HB11.out.size (Obj.cells #[.string ⟨#[84]⟩, .string ⟨#[49]⟩] 24))
  have H24 := Lib.hid (show IsFlds (W11.alloc (Obj.cells #[.string ⟨#[84]⟩, .string ⟨#[49]⟩] 24)) (.slice (some ⟨W11.heap.size, 0, none⟩) 1 1) [([84], [49])] from flds_new1 W11 [84] [49])
  clear HX11 HF11
  go_wp2_with fail
  refine (is_n6 _ _ _ (HTe.out _ HB12.out) (HBr.out _ HB12.out) H24.out).mono ?_
  rintro e w13 ⟨rfl, hb⟩
  have HX13 := Lib.hid (HX12.out.later hb)
  have HF13 := Lib.hid (isFlds_below HF12.out hb)
  have HB13 := Lib.hid (HB12.out.trans (hb.mono HB12.out.size))
  clear hb HX12 HF12
  try clear c0 c1 c2 c3 c4 c5 c6 c7
  clear H24 HB11
  go_wp2_with fail
  refine (is_n7 _ (HTe.out _ HB13.out) (HBr.out _ HB13.out)).mono ?_
  rintro e w14 ⟨rfl, hb⟩
  have HX14 := Lib.hid (HX13.out.later hb)
  have HF14 := Lib.hid (isFlds_below HF13.out hb)
  have HB14 := Lib.hid (HB13.out.trans (hb.mono HB13.out.size))
  clear hb HX13 HF13
  try clear c0 c1 c2 c3 c4 c5 c6 c7
  go_wp2_with fail
  refine (is_n8 _ (HTe.out _ HB14.out) (HBr.out _ HB14.out)).mono ?_
  rintro e w15 ⟨rfl, hb⟩
  have HX15 := Lib.hid (HX14.out.later hb)
  have HF15 := Lib.hid (isFlds_below HF14.out hb)
  have HB15 := Lib.hid (HB14.out.trans (hb.mono HB14.out.size))
  clear hb HX14 HF14
  try clear c0 c1 c2 c3 c4 c5 c6 c7
  go_wp2_with fail
  refine (is_n10 _ (HTh.out _ HB15.out)).mono ?_
  rintro e w16 ⟨a, n, c, rfl, hb⟩
  have HX16 := Lib.hid (HX15.out.later hb)
  have HF16 := Lib.hid (isFlds_below HF15.out hb)
  have HB16 := Lib.hid (HB15.out.trans (hb.mono HB15.out.size))
  clear hb HX15 HF15
  try clear c0 c1 c2 c3 c4 c5 c6 c7
  have HN := Lib.hid (Box.new w16 27 #[.string ⟨#[]⟩, .string ⟨#[]⟩, .int .i64 0, .string ⟨#[]⟩, .int .i64 0, .slice none 0 0, .string ⟨#[]⟩, .slice none 0 0])
  have hb2 := below_setRow (below_alloc w16 (.cells #[.string ⟨#[]⟩, .string ⟨#[]⟩, .int .i64 0, .string ⟨#[]⟩, .int .i64 0, .slice none 0 0, .string ⟨#[]⟩, .slice none 0 0] 27)) (Nat.le_refl _) #[.string ⟨#[]⟩, .string ⟨#[]⟩, .int .i64 502, .string ⟨#[66, 97, 100, 32, 71, 97, 116, 101, 119, 97, 121]⟩, .int .i64 1, .slice a n c, .string ⟨#[53, 48, 50, 32, 66, 97, 100, 32, 71, 97, 116, 101, 119, 97, 121, 10]⟩, .slice none 0 0]
  have HY := Lib.hid (Box.row (cs := #[.string ⟨#[]⟩, .string ⟨#[]⟩, .int .i64 502, .string ⟨#[66, 97, 100, 32, 71, 97, 116, 101, 119, 97, 121]⟩, .int .i64 1, .slice a n c, .string ⟨#[53, 48, 50, 32, 66, 97, 100, 32, 71, 97, 116, 101, 119, 97, 121, 10]⟩, .slice none 0 0]) HN.out)
  have HX17 := Lib.hid (HX16.out.later hb2)
  have HF17 := Lib.hid (isFlds_below HF16.out hb2)
  have HB17 := Lib.hid (HB16.out.trans (hb2.mono HB16.out.size))
  clear hb2 HX16 HF16 HB16
  go_upto_region 17 with (refine wpList_store_row rfl 27 _ _ rfl w16.heap.size 27 _ #[.string ⟨#[]⟩, .string ⟨#[]⟩, .int .i64 502, .string ⟨#[66, 97, 100, 32, 71, 97, 116, 101, 119, 97, 121]⟩, .int .i64 1, .slice a n c, .string ⟨#[53, 48, 50, 32, 66, 97, 100, 32, 71, 97, 116, 101, 119, 97, 121, 10]⟩, .slice none 0 0] rfl rfl HN.out (by kernel_rfl) rfl (all_oneCell_toArray (List.all_eq_true.1 (by rfl))) ?_)
  generalize (w16.alloc (.cells #[.string ⟨#[]⟩, .string ⟨#[]⟩, .int .i64 0, .string ⟨#[]⟩, .int .i64 0, .slice none 0 0, .string ⟨#[]⟩, .slice none 0 0] 27)).setRow w16.heap.size #[.string ⟨#[]⟩, .string ⟨#[]⟩, .int .i64 502, .string ⟨#[66, 97, 100, 32, 71, 97, 116, 101, 119, 97, 121]⟩, .int .i64 1, .slice a n c, .string ⟨#[53, 48, 50, 32, 66, 97, 100, 32, 71, 97, 116, 101, 119, 97, 121, 10]⟩, .slice none 0 0] = w17 at *
  generalize w16.heap.size = pL at *
  clear HN
  simp only [List.append_eq, List.cons_append, List.nil_append]
  have c0 := HX17.out.cell 0 _ rfl
  have c1 := HX17.out.cell 1 _ rfl
  have c2 := HX17.out.cell 2 _ rfl
  have c3 := HX17.out.cell 3 _ rfl
  have c4 := HX17.out.cell 4 _ rfl
  have c5 := HX17.out.cell 5 _ rfl
  have c6 := HX17.out.cell 6 _ rfl
  have c7 := HX17.out.cell 7 _ rfl
  go_wp2_with fail
  refine (is_n9 _ _ _ (HTe.out _ HB17.out) HF17.out).mono ?_
  rintro e w18 ⟨rfl, hb⟩
  have HY18 := Lib.hid (HY.out.later hb)
  have HB18 := Lib.hid (HB17.out.trans (hb.mono HB17.out.size))
  clear hb HX17 HF17 HY HB17 c0 c1 c2 c3 c4 c5 c6 c7
  go_wp2_with fail
  refine (is_n9b _ (HTe.out _ HB18.out)).mono ?_
  rintro e w19 ⟨rfl, hb⟩
  have HY19 := Lib.hid (HY18.out.later hb)
  have HB19 := Lib.hid (HB18.out.trans (hb.mono HB18.out.size))
  clear hb HY18 HB18
  have c0 := HY19.out.cell 0 _ rfl
  have c1 := HY19.out.cell 1 _ rfl
  have c2 := HY19.out.cell 2 _ rfl
  have c3 := HY19.out.cell 3 _ rfl
  have c4 := HY19.out.cell 4 _ rfl
  have c5 := HY19.out.cell 5 _ rfl
  have c6 := HY19.out.cell 6 _ rfl
  have c7 := HY19.out.cell 7 _ rfl
  go_wp2_with fail
  refine (is_n11 _).mono ?_
  rintro e w20 ⟨rfl, rfl⟩
  go_wp2_with fail
  refine (is_n12 _).mono ?_
  rintro e w21 ⟨rfl, rfl⟩
  go_wp2_with fail
  go_ret
  exact ⟨rfl, HB19.out⟩
end Tk
end Go.Proofs.YtdlbmfgajgefdaaDoor
