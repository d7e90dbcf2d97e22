/-
  VaryKeys: requests match if and only if their keys are the same; each matches itself; with one name less they still match. Conditions: none of the statement's own; the listed tables of the library are tied to the program's text by the given tie; the card speaks of the pruned copy of the project.
-/
import Derived.Test.YthooghgiokgdhaaDoorRows
import Derived.Test.YthooghgiokgdhaaDoorCards
import Derived.Test.YthooghgiokgdhaaDoorTie
import Derived.Test.YthooghgiokgdhaaDoorQC
import Derived.Test.YthooghgiokgdhaaDoorQArgs
import Derived.Test.YthooghgiokgdhaaDoorQArgF
import Derived.Test.YthooghgiokgdhaaDoorQArgV
import Derived.Test.YthooghgiokgdhaaDoorQLawVk
import Derived.ProofKit
import Derived.OpenShut
import Derived.LaidMore
import Derived.Lay
import Derived.SevenTiedAt
import Derived.Stop.Joined
import Derived.Carry
namespace Go.Proofs.YthooghgiokgdhaaDoor
open Go.ChangeShapes Go.WideShapes Go.ChangeAt Go.RowKit
namespace CardVk

theorem own : ownKnob Tryd.prog.godebug = none := by kernel_rfl
theorem plain_laid : (Rows.varyKeysRow.laid.all fun x => x.2.handleName?.isNone) = true := by kernel_rfl
theorem u8f_eq : (Rows.laid_unicode_utf8_first : DataW Unit) = Lib.firstData := by kernel_rfl
theorem u8a_eq : (Rows.laid_unicode_utf8_acceptRanges : DataW Unit) = Lib.acceptData := by kernel_rfl
theorem ten_eq : (Rows.laid_internal_strconv_uint64pow10 : DataW Unit) = Lib.tabData .u64 Lib.pow10Tab := by kernel_rfl
set_option maxRecDepth 100000 in
theorem contract (H : Type) (enc : TypeId × Value → H) (W : World) (base : Nat) (args : Array Value) (ds gs : List (DataW H)) (before : List MemPlace)
    (hval0 : ∀ (j : Nat) t v, Tryd.f4.params[j]? = some t → args[j]? = some v → Value.okWide Tryd.prog W .any base t v)
    (hW : DataW.Whole enc Tryd.prog Tryd.f4.params.toList Rows.varyKeysSpec.vars false W args.toList ds gs before) (hsz0 : (DataW.weightsEach Tryd.prog (Tryd.f4.params.toList ++ Rows.varyKeysSpec.plain.varTypes Tryd.prog) (ds ++ gs)).all (· ≤ reachBytes) = true) (hL : laidMetH Tryd.prog Rows.varyKeysRow.laid W)  :
    Calls Tryd.prog 4 args W fun e W' => ∃ v, e = .returned v ∧ Rows.varyKeysSpec.post enc Tryd.prog Tryd.f4 false true false false W args v W' := by
  rw [MakeChecks.laidMetH_plain _ _ _ plain_laid] at hL
  have hU : Tk.Utf W := Tk.utf_of hL (by rw [← u8f_eq]; simp [Rows.varyKeysRow]) (by rw [← u8a_eq]; simp [Rows.varyKeysRow])
  have hV12 : Tk.TenV W := Tk.tenV_of hL (by rw [← ten_eq]; simp [Rows.varyKeysRow])
  have hval := hval0
  have hsz := hsz0
  have hW' := hW
  obtain ⟨p, q, hA0, hV, rfl, _, _⟩ := hW
  have hA : DataW.TrodAll enc Tryd.prog W 0 (fun _ => true) true Tryd.f4.params.toList args.toList ds p := hA0
  rw [Tryd.params4] at hA hval hsz
  obtain ⟨v0, v1, v2, v3, d0, d1, d2, d3, p0, p1, p2, p3, hargs, rfl, rfl, h0, h1, h2, h3⟩ := trodAll_four hA
  subst hargs
  obtain ⟨rfl, rfl⟩ := trodVars_none hV
  have h0k := h0
  obtain ⟨a0, n0, c0, hv0⟩ := okWide_slice Tryd.underlying29 (hval 0 29 v0 rfl rfl)
  obtain ⟨l0, hl0, hd0⟩ := Tk.flds_arg hv0 h0
  have hlt0 : ∀ x ∈ p0, x.block < W.heap.size := fun x hx => by
    have := hW'.lt x (by simp [hx])
    exact this
  have hz0 : ∀ f ∈ l0, f.1.length ≤ 140737488351232 ∧ f.2.length ≤ 140737488351232 := by
    rcases hd0 with rfl | ⟨spare, rfl⟩
    · intro x hx; simp at hx
    · intro x hx
      exact Tk.sized_fld hsz (j := 0) (t := 29) (e := 27) rfl rfl Tryd.underlying29 Tryd.underlying27 (List.mem_map_of_mem (f := Tk.fldD) hx)
  have hlen0 : l0.length ≤ 140737488351232 := by
    rcases hd0 with rfl | ⟨spare, rfl⟩
    · simp
    · have := sized_slice hsz (j := 0) (t := 29) (e := 27) rfl rfl Tryd.underlying29
      rw [Tk.bytesFld] at this
      simp only [List.length_map, reachBytes] at this
      omega
  have h1k := h1
  obtain ⟨a1, n1, c1, hv1⟩ := okWide_slice Tryd.underlying29 (hval 1 29 v1 rfl rfl)
  obtain ⟨l1, hl1, hd1⟩ := Tk.flds_arg hv1 h1
  have hlt1 : ∀ x ∈ p1, x.block < W.heap.size := fun x hx => by
    have := hW'.lt x (by simp [hx])
    exact this
  have hz1 : ∀ f ∈ l1, f.1.length ≤ 140737488351232 ∧ f.2.length ≤ 140737488351232 := by
    rcases hd1 with rfl | ⟨spare, rfl⟩
    · intro x hx; simp at hx
    · intro x hx
      exact Tk.sized_fld hsz (j := 1) (t := 29) (e := 27) rfl rfl Tryd.underlying29 Tryd.underlying27 (List.mem_map_of_mem (f := Tk.fldD) hx)
  have hlen1 : l1.length ≤ 140737488351232 := by
    rcases hd1 with rfl | ⟨spare, rfl⟩
    · simp
    · have := sized_slice hsz (j := 1) (t := 29) (e := 27) rfl rfl Tryd.underlying29
      rw [Tk.bytesFld] at this
      simp only [List.length_map, reachBytes] at this
      omega
  have h2k := h2
  obtain ⟨a2, n2, c2, hv2⟩ := okWide_slice Tryd.underlying23 (hval 2 23 v2 rfl rfl)
  obtain ⟨l2, hl2, hd2⟩ := Tk.strs_arg hv2 h2
  have hlt2 : ∀ x ∈ p2, x.block < W.heap.size := fun x hx => by
    have := hW'.lt x (by simp [hx])
    exact this
  have hz2 : ∀ x ∈ l2, x.length ≤ 140737488351232 := by
    rcases hd2 with rfl | ⟨spare, rfl⟩
    · intro x hx; simp at hx
    · intro x hx
      exact Tk.sized_in hsz (j := 2) (t := 23) (e := 9) rfl rfl Tryd.underlying23 (List.mem_map_of_mem hx)
  have hlen2 : l2.length ≤ 140737488351232 := by
    rcases hd2 with rfl | ⟨spare, rfl⟩
    · simp
    · have := sized_slice hsz (j := 2) (t := 23) (e := 9) rfl rfl Tryd.underlying23
      rw [Tk.bytesStr] at this
      simp only [List.length_map, reachBytes] at this
      omega
  obtain ⟨i3, rfl, rfl, rfl, w3⟩ := open_int Tryd.underlying3 (hval 3 3 v3 rfl rfl) h3
  clear hA0
  have hC := Tk.vkeys_any v0 v1 v2 l0 l1 l2 i3 W hl0 hl1 hl2 (fun x y z e => by rw [hv2] at e; cases e; rw [hv2] at h2k; exact Tk.strs_capV h2k) hz0 hlen0 hz1 hlen1 hz2 hlen2 hU hV12
  refine hC.mono fun e W' ⟨he, bel⟩ => ?_
  subst he
  refine ⟨_, rfl, _, _, _, [], p0 ++ (p1 ++ (p2 ++ [])), [], hW', ?_, ?_, ?_, bel.frame _, fun h => by cases h⟩
  · exact trodAll_mk1 (shut_bool Tryd.underlying4 _)
  · exact trodAll_mk4 (Below.trod Tk.laidOut (by kernel_rfl) (of_decide_eq_true (by kernel_rfl)) h0k bel hlt0) (Below.trod Tk.laidOut (by kernel_rfl) (of_decide_eq_true (by kernel_rfl)) h1k bel hlt1) (Below.trod Tk.laidOut (by kernel_rfl) (of_decide_eq_true (by kernel_rfl)) h2k bel hlt2) (shut_int Tryd.underlying3 w3)
  · rfl

set_option maxRecDepth 100000 in
theorem lifted (os : Os) (started : os.Started) (H : Type) (enc : TypeId × Value → H) :
    ReturnsInHanded {} Tryd.checked os 4 .any (fun w args => (Rows.varyKeysSpec.pre enc Tryd.prog Tryd.f4 Rows.varyKeysRow.domain false w args ∧ laidMetH Tryd.prog Rows.varyKeysRow.laid w) ∧ sizedMet enc Tryd.prog Tryd.f4 (OpenSpec.ofChange Rows.varyKeysSpec) false w args)
      (Rows.varyKeysSpec.post enc Tryd.prog Tryd.f4 false true false false) := by
  refine returnsInHanded_of_change_and (C := Tryd.checked) (X := fun w _ => laidMetH Tryd.prog Rows.varyKeysRow.laid w) (fun _ _ _ hh h => h.of_heap hh) own started (by kernel_rfl) Tryd.func4
    (ChangeSpec.witness_shaped (enc := enc) (C := Tryd.checked) (os := os) (X := fun w _ => laidMetH Tryd.prog Rows.varyKeysRow.laid w) false (World.laidAll Tryd.prog os Rows.varyKeysRow.laid) #[.slice none 0 0, .slice none 0 0, .slice none 0 0, .int .i64 0] 8 (World.laidAll_os _ _ _)
      (World.shaped_of_ZipB (by kernel_rfl) (by kernel_rfl)) (by kernel_rfl) (by kernel_rfl) (by kernel_rfl)
      (by rw [MakeChecks.laidMetH_plain _ _ _ plain_laid]; exact laidMet_laidAll _ (by kernel_rfl) (by kernel_rfl))) ?_
  intro W base args ds gs before hval0 hW hc hsz hL _
  exact contract H enc W base args ds gs before hval0 hW hsz hL

theorem said : Rows.VaryKeysSaid :=
  OpenClaim.holds_of_wide 4 Tryd.f4 rfl rfl rfl rfl rfl rfl rfl ⟨rfl, rfl, rfl, rfl, rfl⟩ rfl rfl rfl rfl rfl (by kernel_rfl) Tryd.func4 (by kernel_rfl)
    (of_decide_eq_true (by kernel_rfl)) (by unfold Func.isWrapper; first | (rw [if_pos (by decide +kernel)]; kernel_rfl) | (rw [if_neg (by decide +kernel)]; exact ⟨rfl, rfl⟩))
    (fun os started H enc _ => lifted os started H enc)

/-- No parameter wants a stand-in; the program's own looks are off. -/
theorem plain (f : FuncId) (fn : Func) (hf : Tryd.pinned.checked.prog.funcNamed "halfwayhouse/halfwayhouselaw12.VaryKeys" = some f) (hfn : Tryd.pinned.checked.prog.funcs[f]? = some fn) :
    false = Tryd.pinned.checked.prog.looks [] ∧ ∀ (j : Nat) t, fn.params[j]? = some t → Tryd.pinned.checked.prog.wantsStandIn t = false := by
  obtain rfl : f = 4 := Option.some.inj ((show Tryd.prog.funcNamed "halfwayhouse/halfwayhouselaw12.VaryKeys" = some 4 by kernel_rfl).symm.trans hf) |>.symm
  obtain rfl : fn = Tryd.f4 := (Option.some.inj (Tryd.func4.symm.trans hfn)).symm
  refine ⟨by kernel_rfl, fun j t ht => ?_⟩
  rw [Tryd.params4] at ht
  have hm : t ∈ [29, 29, 23, 3] := by simpa using Array.mem_of_getElem? ht
  have hall : ([29, 29, 23, 3].all fun u => !Tryd.prog.wantsStandIn u) = true := by kernel_rfl
  exact (show Tryd.prog.wantsStandIn t = false by simpa using List.all_eq_true.1 hall t hm)

theorem card : Rows.VaryKeysCardSaid :=
  Claim7.holds_tied_plain_at .later [] _ _ _ _ said (fun _ h => by cases h) (by kernel_rfl) (fun _ h => by cases h) varyKeys_row_tie rfl ⟨rfl, rfl⟩ (by kernel_rfl) rfl plain (by kernel_rfl)
end CardVk
end Go.Proofs.YthooghgiokgdhaaDoor
