/-
  VaryCalls: what package vary answers is what the document's definition answers. Conditions: none of the statement's own; the listed tables of the library are tied to the program's text by the given tie; the card speaks of the pruned copy of the project.
-/
import Derived.Test.YthooghgiokgdhaaGreatDoorRows
import Derived.Test.YthooghgiokgdhaaGreatDoorCards
import Derived.Test.YthooghgiokgdhaaGreatDoorTie
import Derived.Test.YthooghgiokgdhaaGreatDoorQFive
import Derived.Test.YthooghgiokgdhaaGreatDoorQH
import Derived.Test.YthooghgiokgdhaaGreatDoorQArgs
import Derived.Test.YthooghgiokgdhaaGreatDoorQArgF
import Derived.Test.YthooghgiokgdhaaGreatDoorQArgV
import Derived.Test.YthooghgiokgdhaaGreatDoorQR
import Derived.ProofKit
import Derived.OpenShut
import Derived.LaidMore
import Derived.Lay
import Derived.SevenTiedAt
import Derived.Stop.Joined
import Derived.Carry
namespace Go.Proofs.YthooghgiokgdhaaGreatDoor
open Go.ChangeShapes Go.WideShapes Go.ChangeAt Go.RowKit
namespace CardVc

theorem own : ownKnob Tryz.prog.godebug = none := by kernel_rfl
theorem plain_laid : (Rows.varyCallsRow.laid.all fun x => x.2.handleName?.isNone) = true := by kernel_rfl
theorem u8f_eq : (Rows.laid_unicode_utf8_first : DataW Unit) = Lib.firstData := by kernel_rfl
theorem u8a_eq : (Rows.laid_unicode_utf8_acceptRanges : DataW Unit) = Lib.acceptData := by kernel_rfl
theorem ten_eq : (Rows.laid_internal_strconv_uint64pow10 : DataW Unit) = Lib.tabData .u64 Lib.pow10Tab := by kernel_rfl
set_option maxRecDepth 100000 in
theorem contract (H : Type) (enc : TypeId × Value → H) (W : World) (base : Nat) (args : Array Value) (ds gs : List (DataW H)) (before : List MemPlace)
    (hval0 : ∀ (j : Nat) t v, Tryz.f8.params[j]? = some t → args[j]? = some v → Value.okWide Tryz.prog W .any base t v)
    (hW : DataW.Whole enc Tryz.prog Tryz.f8.params.toList Rows.varyCallsSpec.vars false W args.toList ds gs before) (hsz0 : (DataW.weightsEach Tryz.prog (Tryz.f8.params.toList ++ Rows.varyCallsSpec.plain.varTypes Tryz.prog) (ds ++ gs)).all (· ≤ reachBytes) = true) (hL : laidMetH Tryz.prog Rows.varyCallsRow.laid W)  :
    Calls Tryz.prog 8 args W fun e W' => ∃ v, e = .returned v ∧ Rows.varyCallsSpec.post enc Tryz.prog Tryz.f8 false true false false W args v W' := by
  rw [MakeChecks.laidMetH_plain _ _ _ plain_laid] at hL
  have hU : Tk.Utf W := Tk.utf_of hL (by rw [← u8f_eq]; simp [Rows.varyCallsRow]) (by rw [← u8a_eq]; simp [Rows.varyCallsRow])
  have hV12 : Tk.TenV W := Tk.tenV_of hL (by rw [← ten_eq]; simp [Rows.varyCallsRow])
  have hval := hval0
  have hsz := hsz0
  have hW' := hW
  obtain ⟨p, q, hA0, hV, rfl, _, _⟩ := hW
  have hA : DataW.TrodAll enc Tryz.prog W 0 (fun _ => true) true Tryz.f8.params.toList args.toList ds p := hA0
  rw [Tryz.params8] at hA hval hsz
  obtain ⟨v0, v1, v2, v3, v4, d0, d1, d2, d3, d4, p0, p1, p2, p3, p4, hargs, rfl, rfl, h0, h1, h2, h3, h4⟩ := Tk.trodAll_five hA
  subst hargs
  obtain ⟨rfl, rfl⟩ := trodVars_none hV
  have h0k := h0
  obtain ⟨a0, n0, c0, hv0⟩ := okWide_slice Tryz.underlying22 (hval 0 22 v0 rfl rfl)
  obtain ⟨l0, hl0, hd0⟩ := Tk.flds_arg hv0 h0
  have hlt0 : ∀ x ∈ p0, x.block < W.heap.size := fun x hx => by
    have := hW'.lt x (by simp [hx])
    exact this
  have hz0 : ∀ f ∈ l0, f.1.length ≤ 140737488351232 ∧ f.2.length ≤ 140737488351232 := by
    rcases hd0 with rfl | ⟨spare, rfl⟩
    · intro x hx; simp at hx
    · intro x hx
      exact Tk.sized_fld hsz (j := 0) (t := 22) (e := 31) rfl rfl Tryz.underlying22 Tryz.underlying31 (List.mem_map_of_mem (f := Tk.fldD) hx)
  have hlen0 : l0.length ≤ 140737488351232 := by
    rcases hd0 with rfl | ⟨spare, rfl⟩
    · simp
    · have := sized_slice hsz (j := 0) (t := 22) (e := 31) rfl rfl Tryz.underlying22
      rw [Tk.bytesFld] at this
      simp only [List.length_map, reachBytes] at this
      omega
  have h1k := h1
  obtain ⟨a1, n1, c1, hv1⟩ := okWide_slice Tryz.underlying22 (hval 1 22 v1 rfl rfl)
  obtain ⟨l1, hl1, hd1⟩ := Tk.flds_arg hv1 h1
  have hlt1 : ∀ x ∈ p1, x.block < W.heap.size := fun x hx => by
    have := hW'.lt x (by simp [hx])
    exact this
  have hz1 : ∀ f ∈ l1, f.1.length ≤ 140737488351232 ∧ f.2.length ≤ 140737488351232 := by
    rcases hd1 with rfl | ⟨spare, rfl⟩
    · intro x hx; simp at hx
    · intro x hx
      exact Tk.sized_fld hsz (j := 1) (t := 22) (e := 31) rfl rfl Tryz.underlying22 Tryz.underlying31 (List.mem_map_of_mem (f := Tk.fldD) hx)
  have hlen1 : l1.length ≤ 140737488351232 := by
    rcases hd1 with rfl | ⟨spare, rfl⟩
    · simp
    · have := sized_slice hsz (j := 1) (t := 22) (e := 31) rfl rfl Tryz.underlying22
      rw [Tk.bytesFld] at this
      simp only [List.length_map, reachBytes] at this
      omega
  have h2k := h2
  obtain ⟨a2, n2, c2, hv2⟩ := okWide_slice Tryz.underlying26 (hval 2 26 v2 rfl rfl)
  obtain ⟨l2, hl2, hd2⟩ := Tk.strs_arg hv2 h2
  have hlt2 : ∀ x ∈ p2, x.block < W.heap.size := fun x hx => by
    have := hW'.lt x (by simp [hx])
    exact this
  have hz2 : ∀ x ∈ l2, x.length ≤ 140737488351232 := by
    rcases hd2 with rfl | ⟨spare, rfl⟩
    · intro x hx; simp at hx
    · intro x hx
      exact Tk.sized_in hsz (j := 2) (t := 26) (e := 9) rfl rfl Tryz.underlying26 (List.mem_map_of_mem hx)
  have hlen2 : l2.length ≤ 140737488351232 := by
    rcases hd2 with rfl | ⟨spare, rfl⟩
    · simp
    · have := sized_slice hsz (j := 2) (t := 26) (e := 9) rfl rfl Tryz.underlying26
      rw [Tk.bytesStr] at this
      simp only [List.length_map, reachBytes] at this
      omega
  obtain ⟨s3, rfl, rfl, rfl, w3⟩ := Go.ChangeMaps.open_string Tryz.underlying9 (hval 3 9 v3 rfl rfl) h3
  have z3 : (Tk.bs s3).length ≤ 140737488351232 := Tk.sized_text hsz (j := 3) rfl rfl
  obtain ⟨s4, rfl, rfl, rfl, w4⟩ := Go.ChangeMaps.open_string Tryz.underlying9 (hval 4 9 v4 rfl rfl) h4
  have z4 : (Tk.bs s4).length ≤ 140737488351232 := Tk.sized_text hsz (j := 4) rfl rfl
  clear hA0
  have hC := Tk.vcalls_any v0 v1 v2 l0 l1 l2 s3 s4 W hl0 hl1 hl2 hz0 hlen0 hz1 hlen1 hz2 hlen2 hU hV12
  try simp only [Tk.mkS_bs] at hC
  refine hC.mono fun e W' ⟨he, bel⟩ => ?_
  subst he
  refine ⟨_, rfl, _, _, _, [], p0 ++ (p1 ++ (p2 ++ ([] ++ []))), [], hW', ?_, ?_, ?_, bel.frame _, fun h => by cases h⟩
  · exact trodAll_mk1 (shut_bool Tryz.underlying4 _)
  · exact Tk.trodAll_mk5 (Below.trod Tk.laidOut (by kernel_rfl) (of_decide_eq_true (by kernel_rfl)) h0k bel hlt0) (Below.trod Tk.laidOut (by kernel_rfl) (of_decide_eq_true (by kernel_rfl)) h1k bel hlt1) (Below.trod Tk.laidOut (by kernel_rfl) (of_decide_eq_true (by kernel_rfl)) h2k bel hlt2) (Go.ChangeMaps.shut_string Tryz.underlying9 w3) (Go.ChangeMaps.shut_string Tryz.underlying9 w4)
  · rfl

set_option maxRecDepth 100000 in
theorem lifted (os : Os) (started : os.Started) (H : Type) (enc : TypeId × Value → H) :
    ReturnsInHanded {} Tryz.checked os 8 .any (fun w args => (Rows.varyCallsSpec.pre enc Tryz.prog Tryz.f8 Rows.varyCallsRow.domain false w args ∧ laidMetH Tryz.prog Rows.varyCallsRow.laid w) ∧ sizedMet enc Tryz.prog Tryz.f8 (OpenSpec.ofChange Rows.varyCallsSpec) false w args)
      (Rows.varyCallsSpec.post enc Tryz.prog Tryz.f8 false true false false) := by
  refine returnsInHanded_of_change_and (C := Tryz.checked) (X := fun w _ => laidMetH Tryz.prog Rows.varyCallsRow.laid w) (fun _ _ _ hh h => h.of_heap hh) own started (by kernel_rfl) Tryz.func8
    (ChangeSpec.witness_shaped (enc := enc) (C := Tryz.checked) (os := os) (X := fun w _ => laidMetH Tryz.prog Rows.varyCallsRow.laid w) false (World.laidAll Tryz.prog os Rows.varyCallsRow.laid) #[.slice none 0 0, .slice none 0 0, .slice none 0 0, .string .empty, .string .empty] 8 (World.laidAll_os _ _ _)
      (World.shaped_of_ZipB (by kernel_rfl) (by kernel_rfl)) (by kernel_rfl) (by kernel_rfl) (by kernel_rfl)
      (by rw [MakeChecks.laidMetH_plain _ _ _ plain_laid]; exact laidMet_laidAll _ (by kernel_rfl) (by kernel_rfl))) ?_
  intro W base args ds gs before hval0 hW hc hsz hL _
  exact contract H enc W base args ds gs before hval0 hW hsz hL

theorem said : Rows.VaryCallsSaid :=
  OpenClaim.holds_of_wide 8 Tryz.f8 rfl rfl rfl rfl rfl rfl rfl ⟨rfl, rfl, rfl, rfl, rfl⟩ rfl rfl rfl rfl rfl (by kernel_rfl) Tryz.func8 (by kernel_rfl)
    (of_decide_eq_true (by kernel_rfl)) (by unfold Func.isWrapper; first | (rw [if_pos (by decide +kernel)]; kernel_rfl) | (rw [if_neg (by decide +kernel)]; exact ⟨rfl, rfl⟩))
    (fun os started H enc _ => lifted os started H enc)

/-- No parameter wants a stand-in; the program's own looks are off. -/
theorem plain (f : FuncId) (fn : Func) (hf : Tryz.pinned.checked.prog.funcNamed "halfwayhouse/halfwayhouselaw12.VaryCalls" = some f) (hfn : Tryz.pinned.checked.prog.funcs[f]? = some fn) :
    false = Tryz.pinned.checked.prog.looks [] ∧ ∀ (j : Nat) t, fn.params[j]? = some t → Tryz.pinned.checked.prog.wantsStandIn t = false := by
  obtain rfl : f = 8 := Option.some.inj ((show Tryz.prog.funcNamed "halfwayhouse/halfwayhouselaw12.VaryCalls" = some 8 by kernel_rfl).symm.trans hf) |>.symm
  obtain rfl : fn = Tryz.f8 := (Option.some.inj (Tryz.func8.symm.trans hfn)).symm
  refine ⟨by kernel_rfl, fun j t ht => ?_⟩
  rw [Tryz.params8] at ht
  have hm : t ∈ [22, 22, 26, 9, 9] := by simpa using Array.mem_of_getElem? ht
  have hall : ([22, 22, 26, 9, 9].all fun u => !Tryz.prog.wantsStandIn u) = true := by kernel_rfl
  exact (show Tryz.prog.wantsStandIn t = false by simpa using List.all_eq_true.1 hall t hm)

theorem card : Rows.VaryCallsCardSaid :=
  Claim7.holds_tied_plain_at .later [] _ _ _ _ said (fun _ h => by cases h) (by kernel_rfl) (fun _ h => by cases h) varyCalls_row_tie rfl ⟨rfl, rfl⟩ (by kernel_rfl) rfl plain (by kernel_rfl)
end CardVc
end Go.Proofs.YthooghgiokgdhaaGreatDoor
