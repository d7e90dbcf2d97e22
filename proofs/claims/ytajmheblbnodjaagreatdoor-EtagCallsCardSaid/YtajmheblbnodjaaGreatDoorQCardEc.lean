/-
  EtagCalls: tags are read, written and compared as the document says, for any text, values, tags, fields, checks and time. Conditions: none of the statement's own; the listed tables of the library are tied to the program's text by the given tie; the card speaks of the pruned copy of the project.
-/
import Derived.Test.YtajmheblbnodjaaGreatDoorRows
import Derived.Test.YtajmheblbnodjaaGreatDoorCards
import Derived.Test.YtajmheblbnodjaaGreatDoorTie
import Derived.Test.YtajmheblbnodjaaGreatDoorQDtW
import Derived.Test.YtajmheblbnodjaaGreatDoorQArgX
import Derived.Test.YtajmheblbnodjaaGreatDoorQArgs
import Derived.Test.YtajmheblbnodjaaGreatDoorQLawEc
import Derived.ProofKit
import Derived.OpenShut
import Derived.LaidMore
import Derived.Lay
import Derived.SevenTiedAt
import Derived.Stop.Joined
import Derived.Carry
namespace Go.Proofs.YtajmheblbnodjaaGreatDoor
open Go.ChangeShapes Go.WideShapes Go.ChangeAt Go.RowKit
namespace CardEc

theorem own : ownKnob Tryz.prog.godebug = none := by kernel_rfl
theorem plain_laid : (Rows.etagCallsRow.laid.all fun x => x.2.handleName?.isNone) = true := by kernel_rfl
theorem tens_eq : (Rows.laid_internal_strconv_uint64pow10 : DataW Unit) = Lib.tabData .u64 Lib.pow10Tab := by kernel_rfl
theorem day_eq : (Rows.laid_halfwayhouse_date_dayNames : DataW Unit) = Tk.strsD Tk.dN := by kernel_rfl
theorem mon_eq : (Rows.laid_halfwayhouse_date_monthNames : DataW Unit) = Tk.strsD Tk.mN := by kernel_rfl
set_option maxRecDepth 100000 in
theorem contract (H : Type) (enc : TypeId × Value → H) (W : World) (base : Nat) (args : Array Value) (ds gs : List (DataW H)) (before : List MemPlace)
    (hval0 : ∀ (j : Nat) t v, Tryz.f8.params[j]? = some t → args[j]? = some v → Value.okWide Tryz.prog W .any base t v)
    (hW : DataW.Whole enc Tryz.prog Tryz.f8.params.toList Rows.etagCallsSpec.vars false W args.toList ds gs before) (hsz0 : (DataW.weightsEach Tryz.prog (Tryz.f8.params.toList ++ Rows.etagCallsSpec.plain.varTypes Tryz.prog) (ds ++ gs)).all (· ≤ reachBytes) = true) (hL : laidMetH Tryz.prog Rows.etagCallsRow.laid W) (hsh : W.ShapedOpen Tryz.prog) :
    Calls Tryz.prog 8 args W fun e W' => ∃ v, e = .returned v ∧ Rows.etagCallsSpec.post enc Tryz.prog Tryz.f8 false true false false W args v W' := by
  rw [MakeChecks.laidMetH_plain _ _ _ plain_laid] at hL
  have hT : Tk.NamH W := Tk.namH_of hL (by rw [← tens_eq]; simp [Rows.etagCallsRow]) (by rw [← day_eq]; simp [Rows.etagCallsRow]) (by rw [← mon_eq]; simp [Rows.etagCallsRow]) hsh
  have hval := hval0
  have hsz := hsz0
  have hW' := hW
  obtain ⟨p, q, hA0, hV, rfl, _, _⟩ := hW
  have hA : DataW.TrodAll enc Tryz.prog W 0 (fun _ => true) true Tryz.f8.params.toList args.toList ds p := hA0
  rw [Tryz.params8] at hA hval hsz
  obtain ⟨v0, v1, v2, v3, v4, v5, v6, d0, d1, d2, d3, d4, d5, d6, p0, p1, p2, p3, p4, p5, p6, hargs, rfl, rfl, h0, h1, h2, h3, h4, h5, h6⟩ := Tk.trodAll_seven hA
  subst hargs
  obtain ⟨rfl, rfl⟩ := trodVars_none hV
  obtain ⟨s0, rfl, rfl, rfl, w0⟩ := Go.ChangeMaps.open_string Tryz.underlying9 (hval 0 9 v0 rfl rfl) h0
  have z0 : (Tk.bs s0).length ≤ 140737488351232 := Tk.sized_text hsz (j := 0) rfl rfl
  have h1k := h1
  obtain ⟨a1, n1, c1, hv1⟩ := okWide_slice Tryz.underlying26 (hval 1 26 v1 rfl rfl)
  obtain ⟨l1, hl1, hd1⟩ := Tk.strs_arg hv1 h1
  have hlt1 : ∀ x ∈ p1, x.block < W.heap.size := fun x hx => by
    have := hW'.lt x (by simp [hx])
    exact this
  have hz1 : ∀ x ∈ l1, x.length ≤ 140737488351232 := by
    rcases hd1 with rfl | ⟨spare, rfl⟩
    · intro x hx; simp at hx
    · intro x hx
      exact Tk.sized_in hsz (j := 1) (t := 26) (e := 9) rfl rfl Tryz.underlying26 (List.mem_map_of_mem hx)
  have hlen1 : l1.length ≤ 140737488351232 := by
    rcases hd1 with rfl | ⟨spare, rfl⟩
    · simp
    · have := sized_slice hsz (j := 1) (t := 26) (e := 9) rfl rfl Tryz.underlying26
      rw [Tk.bytesStr] at this
      simp only [List.length_map, reachBytes] at this
      omega
  have h2k := h2
  obtain ⟨t2, rfl, hd2⟩ := Tk.tag_arg (hval 2 81 v2 rfl rfl) h2
  have z2 : t2.2.length ≤ 140737488351232 := Tk.sized_tag hsz (j := 2) rfl (by rw [hd2]; rfl)
  have hlt2 : ∀ x ∈ p2, x.block < W.heap.size := fun x hx => by
    have := hW'.lt x (by simp [hx])
    exact this
  have h3k := h3
  obtain ⟨t3, rfl, hd3⟩ := Tk.tag_arg (hval 3 81 v3 rfl rfl) h3
  have z3 : t3.2.length ≤ 140737488351232 := Tk.sized_tag hsz (j := 3) rfl (by rw [hd3]; rfl)
  have hlt3 : ∀ x ∈ p3, x.block < W.heap.size := fun x hx => by
    have := hW'.lt x (by simp [hx])
    exact this
  have h4k := h4
  obtain ⟨a4, n4, c4, hv4⟩ := okWide_slice Tryz.underlying22 (hval 4 22 v4 rfl rfl)
  obtain ⟨l4, hl4, hd4⟩ := Tk.flds_arg hv4 h4
  have N4 := Tk.flds_nil h4
  have hlt4 : ∀ x ∈ p4, x.block < W.heap.size := fun x hx => by
    have := hW'.lt x (by simp [hx])
    exact this
  have hz4 : ∀ f ∈ l4, f.1.length ≤ 140737488351232 ∧ f.2.length ≤ 140737488351232 := by
    rcases hd4 with rfl | ⟨spare, rfl⟩
    · intro x hx; simp at hx
    · intro x hx
      exact Tk.sized_fld hsz (j := 4) (t := 22) (e := 31) rfl rfl Tryz.underlying22 Tryz.underlying31 (List.mem_map_of_mem (f := Tk.fldD) hx)
  have hlen4 : l4.length ≤ 140737488351232 := by
    rcases hd4 with rfl | ⟨spare, rfl⟩
    · simp
    · have := sized_slice hsz (j := 4) (t := 22) (e := 31) rfl rfl Tryz.underlying22
      rw [Tk.bytesFld] at this
      simp only [List.length_map, reachBytes] at this
      omega
  have h5k := h5
  obtain ⟨x5, rfl, hd5, wx5⟩ := Tk.chk_arg (hval 5 89 v5 rfl rfl) h5
  have zx5 : x5.v.length ≤ 140737488351232 := Tk.sized_chk hsz (j := 5) rfl (by rw [hd5]; rfl)
  have hlt5 : ∀ x ∈ p5, x.block < W.heap.size := fun x hx => by
    have := hW'.lt x (by simp [hx])
    exact this
  obtain ⟨i6, rfl, rfl, rfl, w6⟩ := open_int Tryz.underlying2 (hval 6 2 v6 rfl rfl) h6
  clear hA0
  have hC := Tk.ecalls_any s0 t2 t3 x5 v1 v4 l1 l4 i6 W hT hl1 hz1 hlen1 hl4 N4 hz4 hlen4 (bounds_i64 wx5)
  try simp only [Tk.mkS_bs] at hC
  refine hC.mono fun e W' ⟨he, bel⟩ => ?_
  subst he
  refine ⟨_, rfl, _, _, _, [], [] ++ (p1 ++ (p2 ++ (p3 ++ (p4 ++ (p5 ++ []))))), [], hW', ?_, ?_, ?_, bel.frame _, fun h => by cases h⟩
  · exact trodAll_mk1 (shut_bool Tryz.underlying4 _)
  · exact Tk.trodAll_mk7 (Go.ChangeMaps.shut_string Tryz.underlying9 w0) (Below.trod Tk.laidOut (by kernel_rfl) (of_decide_eq_true (by kernel_rfl)) h1k bel hlt1) (Below.trod Tk.laidOut (by kernel_rfl) (of_decide_eq_true (by kernel_rfl)) h2k bel hlt2) (Below.trod Tk.laidOut (by kernel_rfl) (of_decide_eq_true (by kernel_rfl)) h3k bel hlt3) (Below.trod Tk.laidOut (by kernel_rfl) (of_decide_eq_true (by kernel_rfl)) h4k bel hlt4) (Below.trod Tk.laidOut (by kernel_rfl) (of_decide_eq_true (by kernel_rfl)) h5k bel hlt5) (shut_int Tryz.underlying2 w6)
  · rfl

set_option maxRecDepth 100000 in
theorem lifted (os : Os) (started : os.Started) (H : Type) (enc : TypeId × Value → H) :
    ReturnsInHanded {} Tryz.checked os 8 .any (fun w args => (Rows.etagCallsSpec.pre enc Tryz.prog Tryz.f8 Rows.etagCallsRow.domain false w args ∧ laidMetH Tryz.prog Rows.etagCallsRow.laid w) ∧ sizedMet enc Tryz.prog Tryz.f8 (OpenSpec.ofChange Rows.etagCallsSpec) false w args)
      (Rows.etagCallsSpec.post enc Tryz.prog Tryz.f8 false true false false) := by
  refine Tk.wrap_shaped (C := Tryz.checked) (X := fun w _ => laidMetH Tryz.prog Rows.etagCallsRow.laid w) (fun _ _ _ hh h => h.of_heap hh) own started (by kernel_rfl) Tryz.func8
    (ChangeSpec.witness_shaped (enc := enc) (C := Tryz.checked) (os := os) (X := fun w _ => laidMetH Tryz.prog Rows.etagCallsRow.laid w) false (World.laidAll Tryz.prog os Rows.etagCallsRow.laid) #[.string .empty, .slice none 0 0, .agg #[.bool false, .string .empty], .agg #[.bool false, .string .empty], .slice none 0 0, .agg #[.bool false, .string .empty, .bool false, .int .i64 0, .bool false], .int .i64 0] 8 (World.laidAll_os _ _ _)
      (World.shaped_of_ZipB (by kernel_rfl) (by kernel_rfl)) (by kernel_rfl) (by kernel_rfl) (by kernel_rfl)
      (by rw [MakeChecks.laidMetH_plain _ _ _ plain_laid]; exact laidMet_laidAll _ (by kernel_rfl) (by kernel_rfl))) ?_
  intro W base args ds gs before hval0 hW hc hsz hL hsh
  exact contract H enc W base args ds gs before hval0 hW hsz hL hsh

theorem said : Rows.EtagCallsSaid :=
  OpenClaim.holds_of_wide 8 Tryz.f8 rfl rfl rfl rfl rfl rfl rfl ⟨rfl, rfl, rfl, rfl, rfl⟩ rfl rfl rfl rfl rfl (by kernel_rfl) Tryz.func8 (by kernel_rfl)
    (of_decide_eq_true (by kernel_rfl)) (by unfold Func.isWrapper; first | (rw [if_pos (by decide +kernel)]; kernel_rfl) | (rw [if_neg (by decide +kernel)]; exact ⟨rfl, rfl⟩))
    (fun os started H enc _ => lifted os started H enc)

/-- No parameter wants a stand-in; the program's own looks are off. -/
theorem plain (f : FuncId) (fn : Func) (hf : Tryz.pinned.checked.prog.funcNamed "halfwayhouse/halfwayhouselaw11.EtagCalls" = some f) (hfn : Tryz.pinned.checked.prog.funcs[f]? = some fn) :
    false = Tryz.pinned.checked.prog.looks [] ∧ ∀ (j : Nat) t, fn.params[j]? = some t → Tryz.pinned.checked.prog.wantsStandIn t = false := by
  obtain rfl : f = 8 := Option.some.inj ((show Tryz.prog.funcNamed "halfwayhouse/halfwayhouselaw11.EtagCalls" = some 8 by kernel_rfl).symm.trans hf) |>.symm
  obtain rfl : fn = Tryz.f8 := (Option.some.inj (Tryz.func8.symm.trans hfn)).symm
  refine ⟨by kernel_rfl, fun j t ht => ?_⟩
  rw [Tryz.params8] at ht
  have hm : t ∈ [9, 26, 81, 81, 22, 89, 2] := by simpa using Array.mem_of_getElem? ht
  have hall : ([9, 26, 81, 81, 22, 89, 2].all fun u => !Tryz.prog.wantsStandIn u) = true := by kernel_rfl
  exact (show Tryz.prog.wantsStandIn t = false by simpa using List.all_eq_true.1 hall t hm)

theorem card : Rows.EtagCallsCardSaid :=
  Claim7.holds_tied_plain_at .later [] _ _ _ _ said (fun _ h => by cases h) (by kernel_rfl) (fun _ h => by cases h) etagCalls_row_tie rfl ⟨rfl, rfl⟩ (by kernel_rfl) rfl plain (by kernel_rfl)
end CardEc
end Go.Proofs.YtajmheblbnodjaaGreatDoor
