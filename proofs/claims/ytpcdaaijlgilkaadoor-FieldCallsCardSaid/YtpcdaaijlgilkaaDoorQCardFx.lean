/-
  FieldCalls: for every two lists of fields, text, name and value the law answers true, and the arguments read behind the call as before. Conditions: none of the statement's own; the listed tables of the library are tied to the program's text by the given tie; the card speaks of the pruned copy of the project.
-/
import Derived.Test.YtpcdaaijlgilkaaDoorRows
import Derived.Test.YtpcdaaijlgilkaaDoorCards
import Derived.Test.YtpcdaaijlgilkaaDoorTie
import Derived.Test.YtpcdaaijlgilkaaDoorQE
import Derived.Test.YtpcdaaijlgilkaaDoorQArgF
import Derived.Test.YtpcdaaijlgilkaaDoorQFive
import Derived.ProofKit
import Derived.OpenShut
import Derived.LaidMore
import Derived.Lay
import Derived.SevenTiedAt
import Derived.Stop.Joined
import Derived.Carry
namespace Go.Proofs.YtpcdaaijlgilkaaDoor
open Go.ChangeShapes Go.WideShapes Go.ChangeAt Go.RowKit
namespace CardFx

theorem own : ownKnob Tryd.prog.godebug = none := by kernel_rfl
theorem plain_laid : (Rows.fieldCallsRow.laid.all fun x => x.2.handleName?.isNone) = true := by kernel_rfl
set_option maxRecDepth 100000 in
theorem contract (H : Type) (enc : TypeId × Value → H) (W : World) (base : Nat) (args : Array Value) (ds gs : List (DataW H)) (before : List MemPlace)
    (hval0 : ∀ (j : Nat) t v, Tryd.f3.params[j]? = some t → args[j]? = some v → Value.okWide Tryd.prog W .any base t v)
    (hW : DataW.Whole enc Tryd.prog Tryd.f3.params.toList Rows.fieldCallsSpec.vars false W args.toList ds gs before) (hsz0 : (DataW.weightsEach Tryd.prog (Tryd.f3.params.toList ++ Rows.fieldCallsSpec.plain.varTypes Tryd.prog) (ds ++ gs)).all (· ≤ reachBytes) = true) :
    Calls Tryd.prog 3 args W fun e W' => ∃ v, e = .returned v ∧ Rows.fieldCallsSpec.post enc Tryd.prog Tryd.f3 false true false false W args v W' := by
  have hval := hval0
  have hsz := hsz0
  have hW' := hW
  obtain ⟨p, q, hA0, hV, rfl, _, _⟩ := hW
  have hA : DataW.TrodAll enc Tryd.prog W 0 (fun _ => true) true Tryd.f3.params.toList args.toList ds p := hA0
  rw [Tryd.params3] at hA hval hsz
  obtain ⟨v0, v1, v2, v3, v4, d0, d1, d2, d3, d4, p0, p1, p2, p3, p4, hargs, rfl, rfl, h0, h1, h2, h3, h4⟩ := Tk.trodAll_five hA
  subst hargs
  obtain ⟨rfl, rfl⟩ := trodVars_none hV
  have h0k := h0
  obtain ⟨a0, n0, c0, hv0⟩ := okWide_slice Tryd.underlying22 (hval 0 22 v0 rfl rfl)
  obtain ⟨l0, hl0, hd0⟩ := Tk.flds_arg hv0 h0
  have N0 := Tk.flds_nil h0
  have hlt0 : ∀ x ∈ p0, x.block < W.heap.size := fun x hx => by
    have := hW'.lt x (by simp [hx])
    exact this
  have hz0 : ∀ f ∈ l0, f.1.length ≤ 140737488351232 ∧ f.2.length ≤ 140737488351232 := by
    rcases hd0 with rfl | ⟨spare, rfl⟩
    · intro x hx; simp at hx
    · intro x hx
      exact Tk.sized_fld hsz (j := 0) (t := 22) (e := 26) rfl rfl Tryd.underlying22 Tryd.underlying26 (List.mem_map_of_mem (f := Tk.fldD) hx)
  have hlen0 : l0.length ≤ 140737488351232 := by
    rcases hd0 with rfl | ⟨spare, rfl⟩
    · simp
    · have := sized_slice hsz (j := 0) (t := 22) (e := 26) rfl rfl Tryd.underlying22
      rw [Tk.bytesFld] at this
      simp only [List.length_map, reachBytes] at this
      omega
  have h1k := h1
  obtain ⟨a1, n1, c1, hv1⟩ := okWide_slice Tryd.underlying22 (hval 1 22 v1 rfl rfl)
  obtain ⟨l1, hl1, hd1⟩ := Tk.flds_arg hv1 h1
  have hlt1 : ∀ x ∈ p1, x.block < W.heap.size := fun x hx => by
    have := hW'.lt x (by simp [hx])
    exact this
  have hz1 : ∀ f ∈ l1, f.1.length ≤ 140737488351232 ∧ f.2.length ≤ 140737488351232 := by
    rcases hd1 with rfl | ⟨spare, rfl⟩
    · intro x hx; simp at hx
    · intro x hx
      exact Tk.sized_fld hsz (j := 1) (t := 22) (e := 26) rfl rfl Tryd.underlying22 Tryd.underlying26 (List.mem_map_of_mem (f := Tk.fldD) hx)
  have hlen1 : l1.length ≤ 140737488351232 := by
    rcases hd1 with rfl | ⟨spare, rfl⟩
    · simp
    · have := sized_slice hsz (j := 1) (t := 22) (e := 26) rfl rfl Tryd.underlying22
      rw [Tk.bytesFld] at this
      simp only [List.length_map, reachBytes] at this
      omega
  obtain ⟨s2, rfl, rfl, rfl, w2⟩ := Go.ChangeMaps.open_string Tryd.underlying9 (hval 2 9 v2 rfl rfl) h2
  obtain ⟨s3, rfl, rfl, rfl, w3⟩ := Go.ChangeMaps.open_string Tryd.underlying9 (hval 3 9 v3 rfl rfl) h3
  obtain ⟨s4, rfl, rfl, rfl, w4⟩ := Go.ChangeMaps.open_string Tryd.underlying9 (hval 4 9 v4 rfl rfl) h4
  clear hA0
  refine (Tk.fieldCalls_any v0 v1 l0 l1 s2 s3 s4 W hl0 hl1 N0 hz0 hz1 hlen0 hlen1).mono fun e W' ⟨he, bel⟩ => ?_
  subst he
  refine ⟨_, rfl, _, _, _, [], p0 ++ (p1 ++ ([] ++ ([] ++ []))), [], hW', ?_, ?_, ?_, bel.frame _, fun h => by cases h⟩
  · exact trodAll_mk1 (shut_bool Tryd.underlying4 _)
  · exact Tk.trodAll_mk5 (Below.trod Tk.laidOut (by kernel_rfl) (of_decide_eq_true (by kernel_rfl)) h0k bel hlt0) (Below.trod Tk.laidOut (by kernel_rfl) (of_decide_eq_true (by kernel_rfl)) h1k bel hlt1) (Go.ChangeMaps.shut_string Tryd.underlying9 w2) (Go.ChangeMaps.shut_string Tryd.underlying9 w3) (Go.ChangeMaps.shut_string Tryd.underlying9 w4)
  · rfl

set_option maxRecDepth 100000 in
theorem lifted (os : Os) (started : os.Started) (H : Type) (enc : TypeId × Value → H) :
    ReturnsInHanded {} Tryd.checked os 3 .any (fun w args => (Rows.fieldCallsSpec.pre enc Tryd.prog Tryd.f3 Rows.fieldCallsRow.domain false w args ∧ laidMetH Tryd.prog Rows.fieldCallsRow.laid w) ∧ sizedMet enc Tryd.prog Tryd.f3 (OpenSpec.ofChange Rows.fieldCallsSpec) false w args)
      (Rows.fieldCallsSpec.post enc Tryd.prog Tryd.f3 false true false false) := by
  refine returnsInHanded_of_change_and (C := Tryd.checked) (X := fun w _ => laidMetH Tryd.prog Rows.fieldCallsRow.laid w) (fun _ _ _ hh h => h.of_heap hh) own started (by kernel_rfl) Tryd.func3
    (ChangeSpec.witness_shaped (enc := enc) (C := Tryd.checked) (os := os) (X := fun w _ => laidMetH Tryd.prog Rows.fieldCallsRow.laid w) false (World.laidAll Tryd.prog os Rows.fieldCallsRow.laid) #[.slice none 0 0, .slice none 0 0, .string .empty, .string .empty, .string .empty] 8 (World.laidAll_os _ _ _)
      (World.shaped_of_ZipB (by kernel_rfl) (by kernel_rfl)) (by kernel_rfl) (by kernel_rfl) (by kernel_rfl)
      (by rw [MakeChecks.laidMetH_plain _ _ _ plain_laid]; exact laidMet_laidAll _ (by kernel_rfl) (by kernel_rfl))) ?_
  intro W base args ds gs before hval0 hW hc hsz _ _
  exact contract H enc W base args ds gs before hval0 hW hsz

theorem said : Rows.FieldCallsSaid :=
  OpenClaim.holds_of_wide 3 Tryd.f3 rfl rfl rfl rfl rfl rfl rfl ⟨rfl, rfl, rfl, rfl, rfl⟩ rfl rfl rfl rfl rfl (by kernel_rfl) Tryd.func3 (by kernel_rfl)
    (of_decide_eq_true (by kernel_rfl)) (by unfold Func.isWrapper; first | (rw [if_pos (by decide +kernel)]; kernel_rfl) | (rw [if_neg (by decide +kernel)]; exact ⟨rfl, rfl⟩))
    (fun os started H enc _ => lifted os started H enc)

/-- No parameter wants a stand-in; the program's own looks are off. -/
theorem plain (f : FuncId) (fn : Func) (hf : Tryd.pinned.checked.prog.funcNamed "halfwayhouse/halfwayhouselaw02.FieldCalls" = some f) (hfn : Tryd.pinned.checked.prog.funcs[f]? = some fn) :
    false = Tryd.pinned.checked.prog.looks [] ∧ ∀ (j : Nat) t, fn.params[j]? = some t → Tryd.pinned.checked.prog.wantsStandIn t = false := by
  obtain rfl : f = 3 := Option.some.inj ((show Tryd.prog.funcNamed "halfwayhouse/halfwayhouselaw02.FieldCalls" = some 3 by kernel_rfl).symm.trans hf) |>.symm
  obtain rfl : fn = Tryd.f3 := (Option.some.inj (Tryd.func3.symm.trans hfn)).symm
  refine ⟨by kernel_rfl, fun j t ht => ?_⟩
  rw [Tryd.params3] at ht
  have hm : t ∈ [22, 22, 9, 9, 9] := by simpa using Array.mem_of_getElem? ht
  have hall : ([22, 22, 9, 9, 9].all fun u => !Tryd.prog.wantsStandIn u) = true := by kernel_rfl
  exact (show Tryd.prog.wantsStandIn t = false by simpa using List.all_eq_true.1 hall t hm)

theorem card : Rows.FieldCallsCardSaid :=
  Claim7.holds_tied_plain_at .later [] _ _ _ _ said (fun _ h => by cases h) (by kernel_rfl) (fun _ h => by cases h) fieldCalls_row_tie rfl ⟨rfl, rfl⟩ (by kernel_rfl) rfl plain (by kernel_rfl)
end CardFx
end Go.Proofs.YtpcdaaijlgilkaaDoor
