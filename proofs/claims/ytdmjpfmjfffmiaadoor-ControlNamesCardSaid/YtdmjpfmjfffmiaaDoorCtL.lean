/- What control.Each's function hands over: the directives' names and texts. -/
import Derived.Test.YtdmjpfmjfffmiaaDoorCtK
import Derived.Test.YtdmjpfmjfffmiaaDoorCtE
import Derived.RangeFuncBox
namespace Go.Proofs.YtdmjpfmjfffmiaaDoor
open Go.RowKit
namespace Tk

attribute [local go_sem] Oper.semAt_some

def pairE (d : Bs × Bs) : Array Value := #[.string (mkS d.1), .string (mkS d.2)]
def pairsL (L : List Bs) : List (Bs × Bs) := (dirsL L).map fun d => (d.1, d.2.1)

set_option maxHeartbeats 8000000 in
set_option maxRecDepth 100000 in
theorem each1_hands (g : Nat) (ad : Option Addr) (c : Nat) (L : List Bs) (hl : L.length ≤ 1048576) (hz : ∀ x ∈ L, x.length ≤ 1000000) :
    HandsM Tryd.prog 96 #[.pointer (some ⟨g, 0, none⟩)] pairE (pairsL L) (ListAt g ad c L) := by
  intro l J M W hK hJ hS hY h0
  obtain ⟨hbx, hst⟩ := hS _ _ _ h0
  have HK := Lib.hid hK
  have HJ := Lib.hid hJ
  have HS := Lib.hid hS
  have HY := Lib.hid hY
  have H0 := Lib.hid h0
  have HSt := Lib.hid hst
  clear hK hJ hS hY h0 hst
  have HDir : Hid (∀ W, CallsIn Fence.wide 4 Tryd.prog 46 #[.slice ad L.length c] W fun e w' => e = .returned (.func (.func 90) #[] #[.pointer (some ⟨W.heap.size, 0, none⟩)]) ∧ w' = W.alloc (.cells #[.slice ad L.length c] 38)) := fun W => callsIn_wide.2 (directives_any ad L.length c W)
  refine (callsIn_wide (n := 5)).1 ?_
  refine callsIn_of_wp_marks Tryd.func96 rfl trivial ?_ rfl
  simp only [Tryd.ntmps96, List.size_toArray, List.length_cons, List.length_nil, Nat.reduceAdd, Nat.reduceSub, Array.replicate_succ, Array.replicate_zero, List.push_toArray, List.append_toArray, List.nil_append, List.cons_append]
  have hgz : g < W.heap.size := cell_in (p := ⟨g, 0, none⟩) hbx
  have hb1 := below_allocC W (.cells #[.func (.yield l) #[] #[]] 52)
  have hbx1 : (W.alloc (.cells #[.func (.yield l) #[] #[]] 52)).cell? ⟨g, 0, none⟩ = some (.slice ad L.length c) := (hb1.cell (p := ⟨g, 0, none⟩) hgz).trans hbx
  gi_wp2_with fail
  have hF1 := Bx.new W 52 #[.func (.yield l) #[] #[]]
  refine ⟨trivial, (HDir.out _).mono ?_⟩
  rintro e w5 ⟨rfl, rfl⟩
  have hz5 := World.size_alloc W (.cells #[.func (.yield l) #[] #[]] 52)
  generalize W.alloc (Obj.cells #[.func (.yield l) #[] #[]] 52) = W4 at *
  have hb5 := below_allocC W4 (.cells #[.slice ad L.length c] 38)
  have hB5 := Bx.new W4 38 #[.slice ad L.length c]
  have hF5 := hF1.later hb5
  have hW5 := hb1.trans (hb5.mono hb1.size)
  have HSt5 := Lib.hid (isStrsC_below HSt.out hW5)
  have HJ5 := Lib.hid (HJ.out _ _ _ _ H0.out (Mine.below hW5))
  have hM5 := HK.out _ _ _ H0.out
  clear hb1 hb5 hF1
  rw [hz5] at hB5
  generalize W4.alloc (Obj.cells #[.slice ad L.length c] 38) = W5 at *
  have hgBz : W.heap.size + 1 < W5.heap.size := hB5.lt
  have hgFz : W.heap.size < W5.heap.size := hF5.lt
  gi_wp2_with fail
  have hgFB : W.heap.size < W.heap.size + 1 := Nat.lt_succ_self _
  generalize W.heap.size + 1 = gB at *
  have HH := dirs1_hands gB ad c L hl hz
  refine range_mx (gf := 90) (lb := #[.pointer (some ⟨gB, 0, none⟩)]) rfl (enters_of Tryd.func90 (by kernel_rfl) rfl) (fun _ => rfl) HH
    (fun pre N W' => J (pre.map fun d => (d.1, d.2.1)) N W' ∧ Bx W' W.heap.size 52 #[.func (.yield l) #[] #[]] ∧ Bx W' gB 38 #[.slice ad L.length c] ∧ IsStrs W' (.slice ad L.length c) L ∧ ¬ N W.heap.size ∧ ¬ N gB)
    ?known ?abides ?reads M ⟨HJ5.out, hF5, hB5, HSt5.out, fun h => absurd (hM5 _ h) (by omega), fun h => absurd (hM5 _ h) (by omega)⟩
    (fun x a' z W' => a' = { tmps := #[.func (.yield l) #[] #[], .pointer (some ⟨g, 0, none⟩), .pointer (some ⟨W.heap.size, 0, none⟩), .string (mkS x.1), .pointer (some ⟨z, 0, none⟩), .slice ad L.length c, .func (.func 90) #[] #[.pointer (some ⟨gB, 0, none⟩)], .string (mkS x.1), argV x.2.1 x.2.2, undef, undef, undef, undef, undef, undef], defers := [] } ∧ Bx W' z 72 #[.string (mkS x.2.1), .bool x.2.2]) ?stays ?assign ?body ?done
  case known =>
    rintro s N W' ⟨h, -⟩ k hk
    exact HK.out _ _ _ h k hk
  case abides =>
    rintro s N W1 W2 ⟨h1, h2, h3, h4, n1, n2⟩ hm
    refine ⟨HJ.out _ _ _ _ h1 (hm.mono (by omega) (fun _ h => h)), h2.same (hm.same _ h2.lt (.inl hgFz)), h3.same (hm.same _ h3.lt (.inl hgBz)), ?_, n1, n2⟩
    exact (HS.out _ _ _ (HJ.out _ _ _ _ h1 (hm.mono (by omega) (fun _ h => h)))).2
  case reads =>
    rintro s N W' ⟨-, -, h3, h4, -⟩
    exact ⟨h3.cell 0 _ rfl, h4⟩
  case stays =>
    rintro x a' z W1 W2 ⟨h1, h2⟩ hk
    exact ⟨h1, h2.same (hk z (Nat.le_refl _) h2.lt)⟩
  case assign =>
    intro lp m x W1 K hK
    obtain ⟨n, t, h⟩ := x
    unfold dirE argV at *
    gi_wp2
    exact hK _ _ (below_allocC _ _) ⟨rfl, Bx.new _ _ _⟩
  case body =>
    rintro lp m pre x N a' z W1 ⟨h1, h2, h3, h4, n1, n2⟩ hNz hzW ⟨rfl, hA⟩ hpre
    have hp2 : (pre.map fun d => (d.1, d.2.1)) ++ [(x.1, x.2.1)] <+: pairsL L := by
      have := hpre.map (fun d : Dir => (d.1, d.2.1))
      simpa [pairsL] using this
    have hy0 := HY.out _ _ N W1 h1 hp2
    obtain ⟨n, t, h⟩ := x
    simp only at hA hy0
    have ha0 := hA.cell 0 _ rfl
    have hf0 := h2.cell 0 _ rfl
    have H2 := Lib.hid h2
    have H3 := Lib.hid h3
    have hl2 := h2.lt
    have hl3 := h3.lt
    obtain ⟨fn, tm, asg, bd, hy, hR⟩ := hy0.inRound (m := m - 1) (l' := lp)
    unfold pairE at hy
    simp only at hy
    clear hA h2 h3 h4 hpre hp2 hNz HH HJ5 hF5 hB5
    gi_wp2_with fail
    refine ⟨fun h => absurd h (by decide), hR.mono ?_⟩
    rintro e W2 ⟨rfl, N2, hJ2, hT⟩
    have HJ2 := Lib.hid hJ2
    have HT := Lib.hid hT
    have hsz2 := hT.size
    clear hJ2 hT hR hy
    gi_wp2_with fail
    have hJ3 := HJ2.out
    refine ⟨N2, ⟨by simpa using hJ3, H2.out.same (HT.out.same _ hl2 n1), H3.out.same (HT.out.same _ hl3 n2), (HS.out _ _ _ hJ3).2, fun h => (HT.out.more _ h).elim n1 (by omega), fun h => (HT.out.more _ h).elim n2 (by omega)⟩, HT.out⟩
  case done =>
    rintro D N W1 hD hND ⟨h1, h2, h3, h4, n1, n2⟩ hd
    have HD := Lib.hid hd
    have H1 := Lib.hid h1
    clear h1 h2 h3 h4 n1 n2 hd
    gi_wp2_with fail
    refine ⟨by simp, .inl ⟨_, _, rfl, run_takeDeferred HD.out, ?_⟩⟩
    refine ⟨.tuple #[], ?_, ⟨_, rfl⟩, N, HJ.out _ _ _ _ H1.out (Mine.putObj _ (by omega) hND)⟩
    simp [results, Tryd.results96, go_sem]
end Tk
end Go.Proofs.YtdmjpfmjfffmiaaDoor
