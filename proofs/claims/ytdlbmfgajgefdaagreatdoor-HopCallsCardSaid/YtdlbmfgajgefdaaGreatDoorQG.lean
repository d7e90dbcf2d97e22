/- HopE LgT LgU SamK HopQ HopF HopG TenH RefL RSm RefA RefTr, put together. -/
import Derived.Test.YtdlbmfgajgefdaaGreatDoorQE
import Derived.Test.YtdlbmfgajgefdaaGreatDoorQA
import Derived.Deep.MidRow
import Derived.Test.YtdlbmfgajgefdaaGreatDoorQC
import Derived.BigQuiet
import Derived.Test.YtdlbmfgajgefdaaGreatDoorQD
import Derived.Lib.AppendIntMem
import Derived.Lib.ItoaMem
import Derived.Lib.LaidTab
import Derived.ProofKit
namespace Go.Proofs.YtdlbmfgajgefdaaGreatDoor
open Go.RowKit
namespace Tk

def tokB (l : Bs) : Bool := !l.isEmpty && allL 2 l
theorem wp_store_row {P : Program} {o : Oper} {a : Act} {w : World} {K : Act → World → Prop} {Q : Exit → Act → World → Prop} (ty : TypeId) (x y : Operand) (ho : o.op = .store ty x y)
    (g : Nat) (t : TypeId) (old cells : Array Value) (hx : a.eval x = .pointer (some ⟨g, 0, none⟩)) (hy : a.eval y = .agg cells) (hg : w.heap[g]? = some (.cells old t (0, 0))) (hi : (P.info? ty).map (·.size) = some cells.size)
    (hs : old.size = cells.size) (h1 : cells.all (·.oneCell') = true) (h : K (a.put o.dst undef) (w.setRow g cells)) : o.wp P a w K Q := by
  have hrun := run_storeVar_row (P := P) w g t ty old cells hg hi hs h1
  unfold Oper.wp
  simp [execOp, ho, hx, hy, Instr.storeAt, Instr.sureAddr, hrun, Result.andThen, Oper.upon]
  exact h
theorem step_store_row {P : Program} {ops : Array Oper} {o : Oper} {a : Act} {w : World} {K : Act → World → Prop} {Q : Exit → Act → World → Prop} {E : Prop} (hgd : o.guard = none) (ty : TypeId) (x y : Operand) (ho : o.op = .store ty x y)
    (g : Nat) (t : TypeId) (old cells : Array Value) (hx : a.eval x = .pointer (some ⟨g, 0, none⟩)) (hy : a.eval y = .agg cells) (hg : w.heap[g]? = some (.cells old t (0, 0))) (hi : (P.info? ty).map (·.size) = some cells.size)
    (hs : old.size = cells.size) (h1 : cells.all (·.oneCell') = true) (h : K (a.put o.dst undef) (w.setRow g cells)) : if Region.wanted o (yielded ops a.tmps) = true then o.wp P a w K Q else E := by
  have hw : Region.wanted o (yielded ops a.tmps) = true := by simp [Region.wanted, hgd]
  rw [if_pos hw]
  exact wp_store_row ty x y ho g t old cells hx hy hg hi hs h1 h
theorem wpList_store_row {P : Program} {ops : Array Oper} {rest : List Oper} {o : Oper} {a : Act} {w : World} {Q : Exit → Act → World → Prop} (hgd : o.guard = none) (ty : TypeId) (x y : Operand) (ho : o.op = .store ty x y)
    (g : Nat) (t : TypeId) (old cells : Array Value) (hx : a.eval x = .pointer (some ⟨g, 0, none⟩)) (hy : a.eval y = .agg cells) (hg : w.heap[g]? = some (.cells old t (0, 0))) (hi : (P.info? ty).map (·.size) = some cells.size)
    (hs : old.size = cells.size) (h1 : cells.all (·.oneCell') = true) (h : wpList P ops Q rest (a.put o.dst undef) (w.setRow g cells)) : wpList P ops Q (o :: rest) a w :=
  wpList_plain hgd fun _ hK => wp_store_row ty x y ho g t old cells hx hy hg hi hs h1 (hK _ _ h)
theorem results_two {P : Program} {fn : Func} {p q : Tmp} {ty : TypeId} (h : fn.results = #[.cell p ty, .tmp q]) (tmps : Array Value) (w : World) (g : Nat) (t : TypeId) (cs : Array Value) (fr : Nat × Nat) (d : TypeDesc) (v2 : Value)
    (hp : tmps.getD p undef = .pointer (some ⟨g, 0, none⟩)) (hg : w.heap[g]? = some (.cells cs t fr))
    (hu : P.underlying ty = some d) (hd : (match d with | .struct _ | .array _ _ => true | _ => false) = true) (hi : (P.info? ty).map (·.size) = some cs.size) (hq : tmps.getD q undef = v2) :
    (results fn tmps).run P w = .ok (.tuple #[.agg cs, v2]) w := by
  subst hq
  have hp' : tmps[p]?.getD undef = .pointer (some ⟨g, 0, none⟩) := by simpa using hp
  simp [results, h, hp', asAddr, run_loadVar_row w g t ty cs fr d hg hu hd hi]
theorem Box.row {w : World} {g : Nat} {T : TypeId} {old cs : Array Value} (h : Box w g T old) : Box (w.setRow g cs) g T cs := setRow_heap w g old cs T (0, 0) h

theorem own_row {w : World} {B g : Nat} {v : Value} {n k : Nat} {xs : List Value} {e T : TypeId} {old cs : Array Value} (h : w.ownsRow B e k v n xs) (hb : Box w g T old) (hT : T ≠ e) : (w.setRow g cs).ownsRow B e k v n xs := by
  refine ⟨h.1, ?_⟩
  rcases h.2 with h2 | ⟨gr, cap, cur, hv, hge, hg, h2⟩
  · exact .inl h2
  · refine .inr ⟨gr, cap, cur, hv, hge, ?_, h2⟩
    rw [setRow_other _ _ _ _ (fun e2 => ?_)]
    · exact hg
    · subst e2
      have e3 := hg.symm.trans hb
      injection e3 with e3
      injection e3 with _ e4 _
      exact hT e4.symm

/-- what Forward answers -/
def FwPost (M T : ByteArray) (s : Int) (R : ByteArray) (mi : Int) (B : ByteArray) (l : List (Bs × Bs)) (N : Bs) (w : World) (e : Ending) (w' : World) : Prop :=
  Below w.heap.size w w' ∧ if tokB N = true then ∃ v', e = .returned (.tuple #[.agg (msgC M T s R 1 v' B (.slice none 0 0)), .int .i64 0]) ∧ w'.ownsRow w.heap.size 32 2 v' (forwL (bs M) l mi N).length (fcells (forwL (bs M) l mi N))
    else e = .returned (.tuple #[.agg (msgC ⟨#[]⟩ ⟨#[]⟩ 0 ⟨#[]⟩ 0 (.slice none 0 0) ⟨#[]⟩ (.slice none 0 0)), .int .i64 4])

set_option maxHeartbeats 16000000 in
set_option maxRecDepth 100000 in
theorem forward_any (M T : ByteArray) (s : Int) (R : ByteArray) (mi : Int) (vf : Value) (B : ByteArray) (vt : Value) (l : List (Bs × Bs)) (N : Bs) (w : World) (hs : IsFlds w vf l) (hnl : ∀ n c, vf = .slice none n c → c = 0) (hz : sumF l ≤ 900000) (hl : l.length ≤ 1048570)
    (hM : M.size ≤ 1099511627776) (hT : T.size ≤ 1099511627776) (hR : R.size ≤ 1099511627776) (hBs : B.size ≤ 1099511627776) (hN : N.length ≤ 1000000) (hd : (digI mi).length ≤ 100) (HI : ∀ W, Below w.heap.size w W → ItoaAt mi W) :
    Calls Tryz.prog 10 #[.agg (msgC M T s R mi vf B vt), .string (mkS N)] w (FwPost M T s R mi B l N w) := by
  obtain ⟨a, cap, rfl⟩ : ∃ a cap, vf = .slice a l.length cap := by obtain ⟨a, c, h, -⟩ := hs; exact ⟨a, c, h⟩
  have hX := Box.new w 24 (msgC M T s R mi (.slice a l.length cap) B vt)
  have hB0 := below_alloc w (.cells (msgC M T s R mi (.slice a l.length cap) B vt) 24)
  have hs1 : (w.alloc (.cells (msgC M T s R mi (.slice a l.length cap) B vt) 24)).heap.size = w.heap.size + 1 := by simp
  have hX2 := hX.later (below_alloc _ (.cells (msgC ⟨#[]⟩ ⟨#[]⟩ 0 ⟨#[]⟩ 0 (.slice none 0 0) ⟨#[]⟩ (.slice none 0 0)) 24))
  have hY2 := Box.new (w.alloc (.cells (msgC M T s R mi (.slice a l.length cap) B vt) 24)) 24 (msgC ⟨#[]⟩ ⟨#[]⟩ 0 ⟨#[]⟩ 0 (.slice none 0 0) ⟨#[]⟩ (.slice none 0 0))
  have hB2 := hB0.alloc hB0.size (.cells (msgC ⟨#[]⟩ ⟨#[]⟩ 0 ⟨#[]⟩ 0 (.slice none 0 0) ⟨#[]⟩ (.slice none 0 0)) 24)
  rw [hs1] at hY2
  have HTk : Hid (∀ W : World, Calls Tryz.prog 51 #[.string (mkS N)] W fun e w' => e = .returned (.bool (tokB N)) ∧ Below W.heap.size W w') := fun W => by
    have h := token_any (mkS N) W (by rw [size_mkS]; omega)
    rw [bs_mkS] at h
    exact h
  have HCl : Hid (∀ (x : ByteArray) (W : World), x.size ≤ 1099511627776 → Calls Tryz.prog 52 #[.string x] W fun e w' => e = .returned (.string x) ∧ Below W.heap.size W w') := fun x W hx => by
    refine (clone_any x W hx).mono ?_
    rintro e w' ⟨rfl, hb⟩
    exact ⟨by rw [mkS_bs], hb⟩
  have hsk := sum_kept (bs M) l
  have hlk := len_kept (bs M) l
  have HKp : Hid (∀ W : World, Below w.heap.size w W → Calls Tryz.prog 53 #[.agg (msgC M T s R mi (.slice a l.length cap) B vt)] W (OwnPost (keptL (bs M) l) W)) := fun W hb => kept_any M T s R mi _ B vt l W (isFlds_below hs hb) hnl hz hl
  have HVi : Hid (∀ (W : World) (v : Value), Below w.heap.size w W → IsFlds W v (keptL (bs M) l) → Calls Tryz.prog 17 #[v, .int .i64 mi, .string (mkS N)] W (OwnPost (forwL (bs M) l mi N) W)) :=
    fun W v hb hf => via_any v (keptL (bs M) l) mi N W hf (by omega) (by omega) hN hd (HI W hb)
  have HSz := Lib.hid (⟨hM, hT, hR, hBs⟩ : _ ∧ _ ∧ _ ∧ _)
  unfold OwnPost at HKp HVi
  unfold FwPost
  generalize keptL (bs M) l = K at *
  generalize forwL (bs M) l mi N = F at *
  have HX2 := Lib.hid hX2
  have HY2 := Lib.hid hY2
  have HB2 := Lib.hid hB2
  clear hs hnl hz hl hM hT hR hBs hN hd HI hX hX2 hY2 hB0 hB2 hsk hlk
  unfold msgC at *
  cases ht : tokB N
  · rw [ht] at HTk
    simp only [Bool.false_eq_true, if_false]
    clear ht
    generalize mkS N = NN at *
    go_enter Tryz.func10, Tryz.ntmps10
    go_wp2_with fail
    refine (HTk.out _).mono ?_
    rintro e w3 ⟨rfl, hb⟩
    have HY3 := Lib.hid (HY2.out.later hb)
    have HB3 := Lib.hid (HB2.out.trans (hb.mono HB2.out.size))
    clear hb
    go_wp2_with (refine wpList_store_row rfl 24 _ _ rfl (w.heap.size + 1) 24 _ #[.string ⟨#[]⟩, .string ⟨#[]⟩, .int .i64 0, .string ⟨#[]⟩, .int .i64 0, .slice none 0 0, .string ⟨#[]⟩, .slice none 0 0] rfl rfl HY3.out (by kernel_rfl) rfl (all_oneCell_toArray (List.all_eq_true.1 (by rfl))) ?_)
    refine bodyPost_ret (v := .tuple #[.agg #[.string ⟨#[]⟩, .string ⟨#[]⟩, .int .i64 0, .string ⟨#[]⟩, .int .i64 0, .slice none 0 0, .string ⟨#[]⟩, .slice none 0 0], .int .i64 4]) ?_ rfl ⟨below_setRow HB3.out (Nat.le_succ _) _, rfl⟩
    exact results_two (g := w.heap.size + 1) (t := 24) rfl _ _ _ (0, 0) _ _ rfl (Box.row HY3.out) Tryz.underlying24 rfl (by kernel_rfl) rfl
  · rw [ht] at HTk
    simp only [if_true]
    clear ht
    generalize mkS N = NN at *
    go_enter Tryz.func10, Tryz.ntmps10
    go_wp2_with fail
    refine (HTk.out _).mono ?_
    rintro e w3 ⟨rfl, hb⟩
    have HX3 := Lib.hid (HX2.out.later hb)
    have HY3 := Lib.hid (HY2.out.later hb)
    have HB3 := Lib.hid (HB2.out.trans (hb.mono HB2.out.size))
    clear hb HTk HX2 HY2 HB2
    go_wp2_with fail
    refine wp_region_held_drew (S := (fun W => Box W w.heap.size 24 #[.string M, .string T, .int .i64 s, .string R, .int .i64 mi, .slice a l.length cap, .string B, vt])) (by kernel_rfl) HX3.out (fun hHeld => ?_)
    refine wpAnyH_take (i := 0) (v := ?_) rfl (by kernel_rfl) (by kernel_rfl) (by kernel_rfl) (fun _ _ _ h => h) (Or.inl ⟨by kernel_rfl, ?_⟩) (by assumption) ?_
    case refine_2 => (intro W hSw; go_simp; try with_reducible rfl)
    try simp only [Act.put, List.getElem_toArray, List.getElem_cons_zero, List.setIfInBounds_toArray, List.set_cons_zero, List.set_cons_succ]
    refine wpAnyH_take (i := 1) (v := ?_) rfl (by kernel_rfl) (by kernel_rfl) (by kernel_rfl) (fun _ _ _ h => h) (Or.inl ⟨by kernel_rfl, ?_⟩) (by assumption) ?_
    case refine_2 => (intro W hSw; have u := Box.cell hSw 0 _ rfl; go_simp; try with_reducible rfl)
    try simp only [Act.put, List.getElem_toArray, List.getElem_cons_succ, List.getElem_cons_zero, List.setIfInBounds_toArray, List.set_cons_zero, List.set_cons_succ]
    refine wpAnyH_take (i := 3) (v := ?_) rfl (by kernel_rfl) (by kernel_rfl) (by kernel_rfl) (fun _ _ _ h => h) (Or.inl ⟨by kernel_rfl, ?_⟩) (by assumption) ?_
    case refine_2 => (intro W hSw; go_simp; try with_reducible rfl)
    try simp only [Act.put, List.getElem_toArray, List.getElem_cons_succ, List.getElem_cons_zero, List.setIfInBounds_toArray, List.set_cons_zero, List.set_cons_succ]
    refine wpAnyH_take (i := 4) (v := ?_) rfl (by kernel_rfl) (by kernel_rfl) (by kernel_rfl) (fun _ _ _ h => h) (Or.inl ⟨by kernel_rfl, ?_⟩) (by assumption) ?_
    case refine_2 => (intro W hSw; have u := Box.cell hSw 1 _ rfl; go_simp; try with_reducible rfl)
    try simp only [Act.put, List.getElem_toArray, List.getElem_cons_succ, List.getElem_cons_zero, List.setIfInBounds_toArray, List.set_cons_zero, List.set_cons_succ]
    refine wpAnyH_take (i := 6) (v := ?_) rfl (by kernel_rfl) (by kernel_rfl) (by kernel_rfl) (fun _ _ _ h => h) (Or.inl ⟨by kernel_rfl, ?_⟩) (by assumption) ?_
    case refine_2 => (intro W hSw; go_simp; try with_reducible rfl)
    try simp only [Act.put, List.getElem_toArray, List.getElem_cons_succ, List.getElem_cons_zero, List.setIfInBounds_toArray, List.set_cons_zero, List.set_cons_succ]
    refine wpAnyH_take (i := 7) (v := ?_) rfl (by kernel_rfl) (by kernel_rfl) (by kernel_rfl) (fun _ _ _ h => h) (Or.inl ⟨by kernel_rfl, ?_⟩) (by assumption) ?_
    case refine_2 => (intro W hSw; have u := Box.cell hSw 2 _ rfl; go_simp; try with_reducible rfl)
    try simp only [Act.put, List.getElem_toArray, List.getElem_cons_succ, List.getElem_cons_zero, List.setIfInBounds_toArray, List.set_cons_zero, List.set_cons_succ]
    refine wpAnyH_take (i := 8) (v := ?_) rfl (by kernel_rfl) (by kernel_rfl) (by kernel_rfl) (fun _ _ _ h => h) (Or.inl ⟨by kernel_rfl, ?_⟩) (by assumption) ?_
    case refine_2 => (intro W hSw; go_simp; try with_reducible rfl)
    try simp only [Act.put, List.getElem_toArray, List.getElem_cons_succ, List.getElem_cons_zero, List.setIfInBounds_toArray, List.set_cons_zero, List.set_cons_succ]
    refine wpAnyH_take (i := 9) (v := ?_) rfl (by kernel_rfl) (by kernel_rfl) (by kernel_rfl) (fun _ _ _ h => h) (Or.inl ⟨by kernel_rfl, ?_⟩) (by assumption) ?_
    case refine_2 => (intro W hSw; have u := Box.cell hSw 3 _ rfl; go_simp; try with_reducible rfl)
    try simp only [Act.put, List.getElem_toArray, List.getElem_cons_succ, List.getElem_cons_zero, List.setIfInBounds_toArray, List.set_cons_zero, List.set_cons_succ]
    refine wpAnyH_take (i := 11) (v := ?_) rfl (by kernel_rfl) (by kernel_rfl) (by kernel_rfl) (fun _ _ _ h => h) (Or.inl ⟨by kernel_rfl, ?_⟩) (by assumption) ?_
    case refine_2 => (intro W hSw; have u0 := Box.cell hSw 0 _ rfl; have u1 := Box.cell hSw 1 _ rfl; have u2 := Box.cell hSw 2 _ rfl; have u3 := Box.cell hSw 3 _ rfl; have u4 := Box.cell hSw 4 _ rfl; have u5 := Box.cell hSw 5 _ rfl; have u6 := Box.cell hSw 6 _ rfl; have u7 := Box.cell hSw 7 _ rfl; go_simp; try with_reducible rfl)
    try simp only [Act.put, List.getElem_toArray, List.getElem_cons_succ, List.getElem_cons_zero, List.setIfInBounds_toArray, List.set_cons_zero, List.set_cons_succ]
    refine wpAnyH_take (i := 13) (v := ?_) rfl (by kernel_rfl) (by kernel_rfl) (by kernel_rfl) (fun _ _ _ h => h) (Or.inl ⟨by kernel_rfl, ?_⟩) (by assumption) ?_
    case refine_2 => (intro W hSw; go_simp; try with_reducible rfl)
    try simp only [Act.put, List.getElem_toArray, List.getElem_cons_succ, List.getElem_cons_zero, List.setIfInBounds_toArray, List.set_cons_zero, List.set_cons_succ]
    refine wpAnyH_take (i := 14) (v := ?_) rfl (by kernel_rfl) (by kernel_rfl) (by kernel_rfl) (fun _ _ _ h => h) (Or.inl ⟨by kernel_rfl, ?_⟩) (by assumption) ?_
    case refine_2 => (intro W hSw; have u := Box.cell hSw 4 _ rfl; go_simp; try with_reducible rfl)
    try simp only [Act.put, List.getElem_toArray, List.getElem_cons_succ, List.getElem_cons_zero, List.setIfInBounds_toArray, List.set_cons_zero, List.set_cons_succ]
    refine wpAnyH_take (i := 15) (v := ?_) rfl (by kernel_rfl) (by kernel_rfl) (by kernel_rfl) (fun _ _ _ h => h) (Or.inl ⟨by kernel_rfl, ?_⟩) (by assumption) ?_
    case refine_2 => (intro W hSw; go_simp; try with_reducible rfl)
    try simp only [Act.put, List.getElem_toArray, List.getElem_cons_succ, List.getElem_cons_zero, List.setIfInBounds_toArray, List.set_cons_zero, List.set_cons_succ]
    refine wpAnyH_take (i := 17) (v := ?_) rfl (by kernel_rfl) (by kernel_rfl) (by kernel_rfl) (fun _ _ _ h => h) (Or.inl ⟨by kernel_rfl, ?_⟩) (by assumption) ?_
    case refine_2 => (intro W hSw; go_simp; try with_reducible rfl)
    try simp only [Act.put, List.getElem_toArray, List.getElem_cons_succ, List.getElem_cons_zero, List.setIfInBounds_toArray, List.set_cons_zero, List.set_cons_succ]
    refine wpAnyH_take (i := 18) (v := ?_) rfl (by kernel_rfl) (by kernel_rfl) (by kernel_rfl) (fun _ _ _ h => h) (Or.inl ⟨by kernel_rfl, ?_⟩) (by assumption) ?_
    case refine_2 => (intro W hSw; have u := Box.cell hSw 6 _ rfl; go_simp; try with_reducible rfl)
    try simp only [Act.put, List.getElem_toArray, List.getElem_cons_succ, List.getElem_cons_zero, List.setIfInBounds_toArray, List.set_cons_zero, List.set_cons_succ]
    refine wpAnyH_ready (rs := [2]) (by kernel_rfl) (by simp) ?_
    refine AllReadyH.cons rfl (fun K hK => ?_) AllReadyH.nil
    go_simp
    refine (HCl.out M _ HSz.out.1).mono ?_
    rintro e w4 ⟨rfl, hb0⟩
    have hb : Below w3.heap.size w3 w4 := ((Below.refl w3.heap.size w3).drew).trans hb0
    clear hb0
    have HX4 := Lib.hid (HX3.out.later hb)
    have HY4 := Lib.hid (HY3.out.later hb)
    have HB4 := Lib.hid (HB3.out.trans (hb.mono HB3.out.size))
    have hHeld4 : Box w4 w.heap.size 24 #[.string M, .string T, .int .i64 s, .string R, .int .i64 mi, .slice a l.length cap, .string B, vt] := HX4.out
    clear hb
    go_simp
    refine hK.out _ _ (by assumption) (fun hHeld2 => ?_)
    clear hK K hHeld2
    try simp only [Act.put, List.getElem_toArray, List.getElem_cons_succ, List.getElem_cons_zero, List.setIfInBounds_toArray, List.set_cons_zero, List.set_cons_succ]
    refine wpAnyH_ready (rs := [5]) (by kernel_rfl) (by simp) ?_
    refine AllReadyH.cons rfl (fun K hK => ?_) AllReadyH.nil
    go_simp
    refine (HCl.out T _ HSz.out.2.1).mono ?_
    rintro e w5 ⟨rfl, hb⟩
    have HX5 := Lib.hid (HX4.out.later hb)
    have HY5 := Lib.hid (HY4.out.later hb)
    have HB5 := Lib.hid (HB4.out.trans (hb.mono HB4.out.size))
    have hHeld5 : Box w5 w.heap.size 24 #[.string M, .string T, .int .i64 s, .string R, .int .i64 mi, .slice a l.length cap, .string B, vt] := HX5.out
    clear hb
    go_simp
    refine hK.out _ _ (by assumption) (fun hHeld2 => ?_)
    clear hK K hHeld2
    try simp only [Act.put, List.getElem_toArray, List.getElem_cons_succ, List.getElem_cons_zero, List.setIfInBounds_toArray, List.set_cons_zero, List.set_cons_succ]
    refine wpAnyH_ready (rs := [10]) (by kernel_rfl) (by simp) ?_
    refine AllReadyH.cons rfl (fun K hK => ?_) AllReadyH.nil
    go_simp
    refine (HCl.out R _ HSz.out.2.2.1).mono ?_
    rintro e w6 ⟨rfl, hb⟩
    have HX6 := Lib.hid (HX5.out.later hb)
    have HY6 := Lib.hid (HY5.out.later hb)
    have HB6 := Lib.hid (HB5.out.trans (hb.mono HB5.out.size))
    have hHeld6 : Box w6 w.heap.size 24 #[.string M, .string T, .int .i64 s, .string R, .int .i64 mi, .slice a l.length cap, .string B, vt] := HX6.out
    clear hb
    go_simp
    refine hK.out _ _ (by assumption) (fun hHeld2 => ?_)
    clear hK K hHeld2
    try simp only [Act.put, List.getElem_toArray, List.getElem_cons_succ, List.getElem_cons_zero, List.setIfInBounds_toArray, List.set_cons_zero, List.set_cons_succ]
    refine wpAnyH_ready (rs := [12]) (by kernel_rfl) (by simp) ?_
    refine AllReadyH.cons rfl (fun K hK => ?_) AllReadyH.nil
    go_simp
    refine (HKp.out _ HB6.out).mono ?_
    rintro e w7 ⟨v7, rfl, ho, hb⟩
    have HF7 := Lib.hid (isFlds_own ho)
    clear ho
    have HX7 := Lib.hid (HX6.out.later hb)
    have HY7 := Lib.hid (HY6.out.later hb)
    have HB7 := Lib.hid (HB6.out.trans (hb.mono HB6.out.size))
    have hHeld7 : Box w7 w.heap.size 24 #[.string M, .string T, .int .i64 s, .string R, .int .i64 mi, .slice a l.length cap, .string B, vt] := HX7.out
    clear hb
    go_simp
    refine hK.out _ _ (by assumption) (fun hHeld2 => ?_)
    clear hK K hHeld2
    try simp only [Act.put, List.getElem_toArray, List.getElem_cons_succ, List.getElem_cons_zero, List.setIfInBounds_toArray, List.set_cons_zero, List.set_cons_succ]
    refine wpAnyH_ready (rs := [16]) (by kernel_rfl) (by simp) ?_
    refine AllReadyH.cons rfl (fun K hK => ?_) AllReadyH.nil
    go_simp
    refine (HVi.out _ _ HB7.out HF7.out).mono ?_
    rintro e w8 ⟨v8, rfl, ho, hb⟩
    obtain ⟨a8, c8, rfl⟩ : ∃ a c, v8 = .slice a F.length c := by obtain ⟨a, c, h, -⟩ := isFlds_own ho; exact ⟨a, c, h⟩
    have HO8 := Lib.hid (own_base ho HB7.out.size)
    clear ho
    have HX8 := Lib.hid (HX7.out.later hb)
    have HY8 := Lib.hid (HY7.out.later hb)
    have HB8 := Lib.hid (HB7.out.trans (hb.mono HB7.out.size))
    have hHeld8 : Box w8 w.heap.size 24 #[.string M, .string T, .int .i64 s, .string R, .int .i64 mi, .slice a l.length cap, .string B, vt] := HX8.out
    clear hb
    go_simp
    refine hK.out _ _ (by assumption) (fun hHeld2 => ?_)
    clear hK K hHeld2
    try simp only [Act.put, List.getElem_toArray, List.getElem_cons_succ, List.getElem_cons_zero, List.setIfInBounds_toArray, List.set_cons_zero, List.set_cons_succ]
    refine wpAnyH_ready (rs := [19]) (by kernel_rfl) (by simp) ?_
    refine AllReadyH.cons rfl (fun K hK => ?_) AllReadyH.nil
    go_simp
    refine (HCl.out B _ HSz.out.2.2.2).mono ?_
    rintro e w9 ⟨rfl, hb⟩
    have HO9 := Lib.hid (own_keep2f HO8.out hb)
    have HX9 := Lib.hid (HX8.out.later hb)
    have HY9 := Lib.hid (HY8.out.later hb)
    have HB9 := Lib.hid (HB8.out.trans (hb.mono HB8.out.size))
    have hHeld9 : Box w9 w.heap.size 24 #[.string M, .string T, .int .i64 s, .string R, .int .i64 mi, .slice a l.length cap, .string B, vt] := HX9.out
    clear hb
    go_simp
    refine hK.out _ _ (by assumption) (fun hHeld2 => ?_)
    clear hK K hHeld2
    try simp only [Act.put, List.getElem_toArray, List.getElem_cons_succ, List.getElem_cons_zero, List.setIfInBounds_toArray, List.set_cons_zero, List.set_cons_succ]
    have hHeld := hHeld9
    refine wpAnyH_take (i := 20) (v := ?_) rfl (by kernel_rfl) (by kernel_rfl) (by kernel_rfl) (fun _ _ _ h => h) (Or.inl ⟨by kernel_rfl, ?_⟩) (by assumption) ?_
    case refine_2 => (intro W hSw; go_simp; try with_reducible rfl)
    try simp only [Act.put, List.getElem_toArray, List.getElem_cons_succ, List.getElem_cons_zero, List.setIfInBounds_toArray, List.set_cons_zero, List.set_cons_succ]
    refine wpAnyH_ready (rs := [21]) (by kernel_rfl) (by simp) ?_
    refine AllReadyH.cons rfl (fun K hK => ?_) AllReadyH.nil
    refine step_store_row rfl 24 _ _ rfl (w.heap.size + 1) 24 _ #[.string M, .string T, .int .i64 s, .string R, .int .i64 1, (.slice a8 F.length c8), .string B, .slice none 0 0] (by rfl) (by rfl) HY9.out (by kernel_rfl) rfl (all_oneCell_toArray (List.all_eq_true.1 (by rfl))) ?_
    go_simp
    refine hK.out _ _ ((setRow_other _ _ _ _ (Nat.ne_of_lt (Nat.lt_succ_self _))).trans hHeld) (fun hHeld2 => ?_)
    clear hK K
    try simp only [Act.put, List.getElem_toArray, List.getElem_cons_succ, List.getElem_cons_zero]
    refine wpAnyH_take (i := 22) (v := ?_) rfl (by kernel_rfl) (by kernel_rfl) (by kernel_rfl) (fun _ _ _ h => h) (Or.inl ⟨by kernel_rfl, ?_⟩) (by assumption) ?_
    case refine_2 => (intro W hSw; go_simp; try with_reducible rfl)
    try simp only [Act.put, List.getElem_toArray, List.getElem_cons_succ, List.getElem_cons_zero, List.setIfInBounds_toArray, List.set_cons_zero, List.set_cons_succ]
    clear hHeld2
    refine wpAnyH_done (by kernel_rfl) ?_ _
    have HR := Lib.hid (Box.row (cs := #[.string M, .string T, .int .i64 s, .string R, .int .i64 1, (.slice a8 F.length c8), .string B, .slice none 0 0]) HY9.out)
    have HO := Lib.hid (own_row (cs := #[.string M, .string T, .int .i64 s, .string R, .int .i64 1, (.slice a8 F.length c8), .string B, .slice none 0 0]) HO9.out HY9.out (by decide))
    have HB := Lib.hid (below_setRow HB9.out (Nat.le_succ w.heap.size) #[.string M, .string T, .int .i64 s, .string R, .int .i64 1, (.slice a8 F.length c8), .string B, .slice none 0 0])
    generalize w9.setRow (w.heap.size + 1) #[.string M, .string T, .int .i64 s, .string R, .int .i64 1, (.slice a8 F.length c8), .string B, .slice none 0 0] = wE at *
    go_wp2_with fail
    refine bodyPost_ret (v := .tuple #[.agg #[.string M, .string T, .int .i64 s, .string R, .int .i64 1, (.slice a8 F.length c8), .string B, .slice none 0 0], .int .i64 0]) ?_ rfl ⟨HB.out, ⟨_, rfl, HO.out⟩⟩
    exact results_two (g := w.heap.size + 1) (t := 24) rfl _ _ _ (0, 0) _ _ rfl HR.out Tryz.underlying24 rfl (by kernel_rfl) rfl
end Tk
end Go.Proofs.YtdlbmfgajgefdaaGreatDoor
namespace Go.Proofs.YtdlbmfgajgefdaaGreatDoor
open Go.RowKit
namespace Tk

def lightT (l : List (Bs × Bs)) : Bool := decide (l.length ≤ 10) && lfGo 300 0 l
theorem lightT_parts (l : List (Bs × Bs)) (h : lightT l = true) : l.length ≤ 10 ∧ sumF l ≤ 340 := by
  unfold lightT at h
  rw [Bool.and_eq_true, decide_eq_true_eq] at h
  have := lfGo_sum 300 l 0 (by omega) h.2
  exact ⟨h.1, by omega⟩

set_option maxHeartbeats 2000000 in
set_option maxRecDepth 100000 in
theorem lightTen_any (v : Value) (l : List (Bs × Bs)) (w : World) (hs : IsFlds w v l) (hz : ∀ f ∈ l, f.1.length ≤ 140737488351232 ∧ f.2.length ≤ 140737488351232) (hl : l.length ≤ 140737488351232) :
    Calls Tryz.prog 88 #[v, .int .i64 10, .int .i64 300] w fun e w' => e = .returned (.bool (lightT l)) ∧ ∃ n, w' = w.drewN n := by
  obtain ⟨a, c, rfl, hcap, hc⟩ := hs
  have HC := Lib.hid hc
  have HZ := Lib.hid hz
  clear hc hz
  by_cases h20 : 10 < l.length
  · have fin : lightT l = false := by unfold lightT; rw [decide_eq_false (by omega)]; rfl
    have HF := Lib.hid fin
    have h' : (10 : Int) < (l.length : Int) := by omega
    clear fin
    go_enter Tryz.func88, Tryz.ntmps88
    go_wp2_with fail
    go_ret
    exact ⟨by rw [HF.out]; rfl, 0, rfl⟩
  · have fin : lightT l = lfGo 300 0 l := by unfold lightT; rw [decide_eq_true (by omega)]; rfl
    have HF := Lib.hid fin
    have h' : ¬ (10 : Int) < (l.length : Int) := by omega
    clear fin
    go_enter Tryz.func88, Tryz.ntmps88
    go_wp2_with fail
    go_loopw [7, 8] (fun vn vi wr => ∃ (i n m : Nat), i ≤ l.length ∧ n ≤ 300 ∧ vi = .int .i64 i ∧ vn = .int .i64 n ∧ wr = w.drewN m ∧ Hid (lightT l = lfGo 300 n (l.drop i))) (fun _ vi _ => l.length - (RowKit.intOf vi).toNat)
    case atStart => exact ⟨0, 0, 0, by omega, by omega, rfl, rfl, rfl, HF.out⟩
    case round =>
      obtain ⟨i, n, m, hi, hn, rfl, rfl, rfl, hd⟩ := hrel
      by_cases hlt : i < l.length
      · obtain ⟨b, o, rfl, hc0, hc1⟩ := HC.out i (l.getD i ([], [])) (by simp [List.getD, hlt])
        obtain ⟨z0, z1⟩ := HZ.out (l.getD i ([], [])) (by simp [List.getD, hlt])
        have hdr : l.drop i = l.getD i ([], []) :: l.drop (i + 1) := by rw [List.drop_eq_getElem_cons hlt]; simp [List.getD, hlt]
        have HD := Lib.hid hdr
        clear hdr
        generalize l.getD i ([], []) = f at *
        obtain ⟨x, y⟩ := f
        simp only at z0 z1 hc0 hc1
        have s0 := size_mkS x
        have s1 := size_mkS y
        have HS0 := Lib.hid s0
        have HS1 := Lib.hid s1
        have y0 : (mkS x).size ≤ 140737488351232 := by omega
        have y1 : (mkS y).size ≤ 140737488351232 := by omega
        clear s0 s1 z0 z1
        have hb0 : (0 : Int) ≤ (i : Int) := by omega
        have hb1 : (i : Int) < (l.length : Int) := by omega
        by_cases hb : 300 < n + (mkS x).size + (mkS y).size
        · have fin : lightT l = false := by
            rw [hd.out, HD.out, lfGo, if_pos (by rw [← HS0.out, ← HS1.out]; exact hb)]
          have HF2 := Lib.hid fin
          have hb' : (300 : Int) < (n : Int) + ((mkS x).size : Int) + ((mkS y).size : Int) := by omega
          clear fin HF HD hd
          generalize mkS x = s at *
          generalize mkS y = t at *
          have w1 : IntKind.i64.wrap ((n : Int) + (s.size : Int)) = (n : Int) + (s.size : Int) := IntWalk.i64_in _ (by omega)
          have w2 : IntKind.i64.wrap ((n : Int) + (s.size : Int) + (t.size : Int)) = (n : Int) + (s.size : Int) + (t.size : Int) := IntWalk.i64_in _ (by omega)
          go_wp2_with fail
          go_quiet (fail)
          clear w1 w2
          go_wp2_with fail
          go_ret
          exact ⟨by rw [HF2.out]; rfl, _, rfl⟩
        · have nx : lightT l = lfGo 300 (n + (mkS x).size + (mkS y).size) (l.drop (i + 1)) := by
            rw [hd.out, HD.out, lfGo, if_neg (by rw [← HS0.out, ← HS1.out]; exact hb), HS0.out, HS1.out]
          have HN := Lib.hid nx
          have hb' : ¬ (300 : Int) < (n : Int) + ((mkS x).size : Int) + ((mkS y).size : Int) := by omega
          clear nx HF HD hd
          generalize mkS x = s at *
          generalize mkS y = t at *
          have w1 : IntKind.i64.wrap ((n : Int) + (s.size : Int)) = (n : Int) + (s.size : Int) := IntWalk.i64_in _ (by omega)
          have w2 : IntKind.i64.wrap ((n : Int) + (s.size : Int) + (t.size : Int)) = (n : Int) + (s.size : Int) + (t.size : Int) := IntWalk.i64_in _ (by omega)
          go_wp2_with fail
          go_quiet (fail)
          clear w1 w2
          go_wp2_with fail
          exact ⟨⟨i + 1, n + s.size + t.size, _, by omega, by omega, by go_num, by go_num, rfl, HN⟩, by simp [RowKit.intOf]; omega⟩
      · have fin : lightT l = true := by rw [hd.out, List.drop_eq_nil_of_le (by omega)]; rfl
        have HF2 := Lib.hid fin
        clear fin
        go_wp2_with fail
        go_ret
        exact ⟨by rw [HF2.out]; rfl, _, rfl⟩

end Tk
end Go.Proofs.YtdlbmfgajgefdaaGreatDoor
namespace Go.Proofs.YtdlbmfgajgefdaaGreatDoor
open Go.RowKit
namespace Tk

def lightU (l : List (Bs × Bs)) : Bool := decide (l.length ≤ 20) && lfGo 600 0 l
theorem lightU_parts (l : List (Bs × Bs)) (h : lightU l = true) : l.length ≤ 20 ∧ sumF l ≤ 680 := by
  unfold lightU at h
  rw [Bool.and_eq_true, decide_eq_true_eq] at h
  have := lfGo_sum 600 l 0 (by omega) h.2
  exact ⟨h.1, by omega⟩

set_option maxHeartbeats 2000000 in
set_option maxRecDepth 100000 in
theorem lightTwenty_any (v : Value) (l : List (Bs × Bs)) (w : World) (hs : IsFlds w v l) (hz : ∀ f ∈ l, f.1.length ≤ 140737488351232 ∧ f.2.length ≤ 140737488351232) (hl : l.length ≤ 140737488351232) :
    Calls Tryz.prog 88 #[v, .int .i64 20, .int .i64 600] w fun e w' => e = .returned (.bool (lightU l)) ∧ ∃ n, w' = w.drewN n := by
  obtain ⟨a, c, rfl, hcap, hc⟩ := hs
  have HC := Lib.hid hc
  have HZ := Lib.hid hz
  clear hc hz
  by_cases h20 : 20 < l.length
  · have fin : lightU l = false := by unfold lightU; rw [decide_eq_false (by omega)]; rfl
    have HF := Lib.hid fin
    have h' : (20 : Int) < (l.length : Int) := by omega
    clear fin
    go_enter Tryz.func88, Tryz.ntmps88
    go_wp2_with fail
    go_ret
    exact ⟨by rw [HF.out]; rfl, 0, rfl⟩
  · have fin : lightU l = lfGo 600 0 l := by unfold lightU; rw [decide_eq_true (by omega)]; rfl
    have HF := Lib.hid fin
    have h' : ¬ (20 : Int) < (l.length : Int) := by omega
    clear fin
    go_enter Tryz.func88, Tryz.ntmps88
    go_wp2_with fail
    go_loopw [7, 8] (fun vn vi wr => ∃ (i n m : Nat), i ≤ l.length ∧ n ≤ 600 ∧ vi = .int .i64 i ∧ vn = .int .i64 n ∧ wr = w.drewN m ∧ Hid (lightU l = lfGo 600 n (l.drop i))) (fun _ vi _ => l.length - (RowKit.intOf vi).toNat)
    case atStart => exact ⟨0, 0, 0, by omega, by omega, rfl, rfl, rfl, HF.out⟩
    case round =>
      obtain ⟨i, n, m, hi, hn, rfl, rfl, rfl, hd⟩ := hrel
      by_cases hlt : i < l.length
      · obtain ⟨b, o, rfl, hc0, hc1⟩ := HC.out i (l.getD i ([], [])) (by simp [List.getD, hlt])
        obtain ⟨z0, z1⟩ := HZ.out (l.getD i ([], [])) (by simp [List.getD, hlt])
        have hdr : l.drop i = l.getD i ([], []) :: l.drop (i + 1) := by rw [List.drop_eq_getElem_cons hlt]; simp [List.getD, hlt]
        have HD := Lib.hid hdr
        clear hdr
        generalize l.getD i ([], []) = f at *
        obtain ⟨x, y⟩ := f
        simp only at z0 z1 hc0 hc1
        have s0 := size_mkS x
        have s1 := size_mkS y
        have HS0 := Lib.hid s0
        have HS1 := Lib.hid s1
        have y0 : (mkS x).size ≤ 140737488351232 := by omega
        have y1 : (mkS y).size ≤ 140737488351232 := by omega
        clear s0 s1 z0 z1
        have hb0 : (0 : Int) ≤ (i : Int) := by omega
        have hb1 : (i : Int) < (l.length : Int) := by omega
        by_cases hb : 600 < n + (mkS x).size + (mkS y).size
        · have fin : lightU l = false := by
            rw [hd.out, HD.out, lfGo, if_pos (by rw [← HS0.out, ← HS1.out]; exact hb)]
          have HF2 := Lib.hid fin
          have hb' : (600 : Int) < (n : Int) + ((mkS x).size : Int) + ((mkS y).size : Int) := by omega
          clear fin HF HD hd
          generalize mkS x = s at *
          generalize mkS y = t at *
          have w1 : IntKind.i64.wrap ((n : Int) + (s.size : Int)) = (n : Int) + (s.size : Int) := IntWalk.i64_in _ (by omega)
          have w2 : IntKind.i64.wrap ((n : Int) + (s.size : Int) + (t.size : Int)) = (n : Int) + (s.size : Int) + (t.size : Int) := IntWalk.i64_in _ (by omega)
          go_wp2_with fail
          go_quiet (fail)
          clear w1 w2
          go_wp2_with fail
          go_ret
          exact ⟨by rw [HF2.out]; rfl, _, rfl⟩
        · have nx : lightU l = lfGo 600 (n + (mkS x).size + (mkS y).size) (l.drop (i + 1)) := by
            rw [hd.out, HD.out, lfGo, if_neg (by rw [← HS0.out, ← HS1.out]; exact hb), HS0.out, HS1.out]
          have HN := Lib.hid nx
          have hb' : ¬ (600 : Int) < (n : Int) + ((mkS x).size : Int) + ((mkS y).size : Int) := by omega
          clear nx HF HD hd
          generalize mkS x = s at *
          generalize mkS y = t at *
          have w1 : IntKind.i64.wrap ((n : Int) + (s.size : Int)) = (n : Int) + (s.size : Int) := IntWalk.i64_in _ (by omega)
          have w2 : IntKind.i64.wrap ((n : Int) + (s.size : Int) + (t.size : Int)) = (n : Int) + (s.size : Int) + (t.size : Int) := IntWalk.i64_in _ (by omega)
          go_wp2_with fail
          go_quiet (fail)
          clear w1 w2
          go_wp2_with fail
          exact ⟨⟨i + 1, n + s.size + t.size, _, by omega, by omega, by go_num, by go_num, rfl, HN⟩, by simp [RowKit.intOf]; omega⟩
      · have fin : lightU l = true := by rw [hd.out, List.drop_eq_nil_of_le (by omega)]; rfl
        have HF2 := Lib.hid fin
        clear fin
        go_wp2_with fail
        go_ret
        exact ⟨by rw [HF2.out]; rfl, _, rfl⟩

end Tk
end Go.Proofs.YtdlbmfgajgefdaaGreatDoor
namespace Go.Proofs.YtdlbmfgajgefdaaGreatDoor
open Go.RowKit
namespace Tk

theorem field_neq (W : World) (a b : ByteArray) : (binOp .neq 32 (.agg #[.string a, .string b]) (.agg #[.string a, .string b])).run Tryz.prog W = .ok (.bool false) W := by
  rw [run_neq_struct, run_equalIn_agg _ _ _ _ _ (by simp [Program.fieldsOf, Tryz.underlying32]) noStand]
  simp [Program.fieldsOf, Tryz.underlying32, Op.eqFields, go_sem]

set_option maxHeartbeats 2000000 in
set_option maxRecDepth 100000 in
theorem ksame_self (v1 v2 : Value) (l : List (Bs × Bs)) (w : World) (h1 : IsFlds w v1 l) (h2 : IsFlds w v2 l) (hl : l.length ≤ 1099511627) :
    Calls Tryz.prog 12 #[v1, v2] w fun e w' => e = .returned (.bool true) ∧ Below w.heap.size w w' := by
  obtain ⟨a1, c1, rfl, l1, k1⟩ := h1
  obtain ⟨a2, c2, rfl, l2, k2⟩ := h2
  have K1 := Lib.hid k1
  have K2 := Lib.hid k2
  have hb : ((l.length : Int) != (l.length : Int)) = false := by simp
  clear k1 k2
  go_enter Tryz.func12, Tryz.ntmps12
  go_wp2_with fail
  go_loopw [5] (fun v wr => ∃ (j n : Nat), j ≤ l.length ∧ v = .int .i64 j ∧ wr = w.drewN n) (fun v _ => l.length - (RowKit.intOf v).toNat)
  case atStart => exact ⟨0, 0, Nat.zero_le _, rfl, rfl⟩
  case round =>
    obtain ⟨j, n, hj, rfl, rfl⟩ := hrel
    by_cases hlt : j < l.length
    · obtain ⟨b1, o1, rfl, d1, d2⟩ := K1.out j (l.getD j ([], [])) (by simp [List.getD, hlt])
      obtain ⟨b2, o2, rfl, d3, d4⟩ := K2.out j (l.getD j ([], [])) (by simp [List.getD, hlt])
      have hfn := field_neq
      generalize l.getD j ([], []) = f at *
      have g0 : (0 : Int) ≤ (j : Int) := by omega
      have g1 : (j : Int) < (l.length : Int) := by omega
      go_wp2_with fail
      go_quiet (fail)
      go_wp2_with fail
      exact ⟨⟨j + 1, _, by omega, by go_num, rfl⟩, by simp [RowKit.intOf]; omega⟩
    · go_wp2_with fail
      go_ret
      exact ⟨rfl, ⟨rfl, rfl, rfl, Nat.le_refl _, fun _ _ => rfl⟩⟩
end Tk
end Go.Proofs.YtdlbmfgajgefdaaGreatDoor
namespace Go.Proofs.YtdlbmfgajgefdaaGreatDoor
namespace Tk

theorem spl_plain : ∀ (l cur : Bs), (∀ c ∈ l, c ≠ 44 ∧ c ≠ 34) → spl 0 cur l = [cur ++ l]
  | [], cur, _ => by simp [spl]
  | c :: t, cur, h => by
    have hc := h c (by simp)
    rw [spl, if_neg hc.1, if_neg hc.2, spl_plain t (cur ++ [c]) fun d hd => h d (by simp [hd])]
    simp
theorem trim_as (l : Bs) (h : ∀ c ∈ l, c ≠ 32 ∧ c ≠ 9) : trimL l = l := by
  have dw : ∀ l : Bs, (∀ c ∈ l, c ≠ 32 ∧ c ≠ 9) → l.dropWhile (fun b => [32, 9].contains b) = l := by
    intro l h
    cases l with
    | nil => rfl
    | cons c t =>
      have hc := h c (by simp)
      rw [List.dropWhile_cons, if_neg (by simp [hc.1, hc.2])]
  unfold trimL Lib.trimS Lib.trimLeftS Lib.trimRightS
  rw [dw l.reverse (fun c hc => h c (by simpa using hc)), List.reverse_reverse, dw l h]
theorem trim_front (l : Bs) (h : ∀ c ∈ l, c ≠ 32 ∧ c ≠ 9) : trimL (32 :: l) = l := by
  have dw : ∀ l : Bs, (∀ c ∈ l, c ≠ 32 ∧ c ≠ 9) → l.dropWhile (fun b => [32, 9].contains b) = l := by
    intro l h
    cases l with
    | nil => rfl
    | cons c t =>
      have hc := h c (by simp)
      rw [List.dropWhile_cons, if_neg (by simp [hc.1, hc.2])]
  unfold trimL Lib.trimS Lib.trimLeftS Lib.trimRightS
  cases l with
  | nil => rfl
  | cons a t =>
    have hlast : ((32 :: a :: t).reverse).dropWhile (fun b => [32, 9].contains b) = (32 :: a :: t).reverse := by
      have e : (32 :: a :: t).reverse = (a :: t).reverse ++ [32] := by simp
      rw [e]
      cases hr : (a :: t).reverse with
      | nil => simp at hr
      | cons z r =>
        have hz := h z (by rw [← List.mem_reverse, hr]; simp)
        rw [List.cons_append, List.dropWhile_cons, if_neg (by simp [hz.1, hz.2])]
    rw [hlast, List.reverse_reverse, List.dropWhile_cons, if_pos (by decide), dw _ h]
theorem tok_char (c : UInt8) (h : 2 ≤ kindOf c.toNat) : c ≠ 44 ∧ c ≠ 34 ∧ c ≠ 32 ∧ c ≠ 9 := by
  refine ⟨?_, ?_, ?_, ?_⟩ <;> (rintro rfl; revert h; decide)
/-- q and one more name -/
theorem split_more (n : Bs) (h0 : n ≠ []) (h : allL 2 n = true) : splitL ([113, 44, 32] ++ n) = [[113], n] := by
  have hc : ∀ c ∈ n, c ≠ 44 ∧ c ≠ 34 ∧ c ≠ 32 ∧ c ≠ 9 := by
    intro c hc
    unfold allL at h
    rw [List.all_eq_true] at h
    exact tok_char c (of_decide_eq_true (h c hc))
  have e : spl 0 [] ([113, 44, 32] ++ n) = [[113], 32 :: n] := by
    show spl 0 [] (113 :: 44 :: 32 :: n) = _
    rw [spl, if_neg (by decide), if_neg (by decide), spl, if_pos rfl, spl_plain _ _ (by
      intro c hx
      rcases List.mem_cons.1 hx with rfl | hx
      · decide
      · exact ⟨(hc c hx).1, (hc c hx).2.1⟩)]
    rfl
  unfold splitL
  rw [e, parts_cons, parts_one, trim_front n fun c hx => ⟨(hc c hx).2.2.1, (hc c hx).2.2.2⟩, show trimL [113] = [113] by decide]
  unfold addP
  rw [if_neg (by decide), if_neg h0]; rfl
def qB : Bs := [113]
/-- Connection, in small letters -/
def cnL : Bs := [99, 111, 110, 110, 101, 99, 116, 105, 111, 110]
theorem strip_named (l : List (Bs × Bs)) (n : Bs) (h0 : n ≠ []) (h : allL 2 n = true) : stripL (l ++ [(cnL, [113, 44, 32] ++ n)]) = delF qB (delF n (stripL l)) := by
  rw [strip_more l cnL _ [[113], n] (by decide) (split_more n h0 h), del_wipe, del_wipe, wipe_wipe]
  apply wipe_congr
  intro x
  simp [qB, or_comm]

/-- the way that was taken: the first i names -/
def wayB (names : List Bs) : Nat → Bs
  | 0 => []
  | i + 1 => (if i = 0 then [] else wayB names i ++ [44, 32]) ++ viaS ((i % 2 : Nat) : Int) (names.getD i [])
def wayF (names : List Bs) (i : Nat) : List (Bs × Bs) := if i = 0 then [] else [(viB, wayB names i)]
theorem way_step (names : List Bs) (i : Nat) : viaL (wayF names i) ((i % 2 : Nat) : Int) (names.getD i []) = wayF names (i + 1) := by
  unfold viaL viaV wayF
  by_cases h : i = 0
  · subst h
    rfl
  · have e : allF [(viB, wayB names i)] viB = [wayB names i] := by rw [allF_cons, isN_self]; rfl
    rw [if_neg h, if_neg (Nat.succ_ne_zero i), wayB, if_neg h, e, if_pos (by simp), joinB_one]
    unfold setF
    rw [show List.findIdx (isN viB) [(viB, wayB names i)] = 0 by rw [List.findIdx_cons, isN_self]; rfl]
    rfl
theorem way_get (names : List Bs) (i : Nat) : joinB (allF (wayF names i) viB) = wayB names i := by
  unfold wayF
  by_cases h : i = 0
  · subst h; rfl
  · rw [if_neg h, show allF [(viB, wayB names i)] viB = [wayB names i] by rw [allF_cons, isN_self]; rfl, joinB_one]
theorem way_len (names : List Bs) (i : Nat) : (wayF names i).length = min 1 i := by
  unfold wayF
  by_cases h : i = 0
  · subst h; rfl
  · rw [if_neg h]; simp; omega
theorem dig_small (i : Nat) : digI ((i % 2 : Nat) : Int) = [UInt8.ofNat (48 + i % 2)] := by
  unfold digI
  rw [Lib.itoa_nonneg, Lib.decDigits_one (by omega)]
theorem viaS_len (i : Nat) (n : Bs) : (viaS ((i % 2 : Nat) : Int) n).length = n.length + 4 := by
  unfold viaS
  rw [dig_small]; simp
theorem way_size (names : List Bs) (b : Nat) (h : ∀ x ∈ names, x.length ≤ b) : ∀ i, (wayB names i).length ≤ i * (b + 6)
  | 0 => by simp [wayB]
  | i + 1 => by
    have ih := way_size names b h i
    have hx : (names.getD i []).length ≤ b := by
      by_cases hi : i < names.length
      · exact h _ (by simp [List.getD, hi])
      · simp [List.getD, hi]
    have hm : (i + 1) * (b + 6) = i * (b + 6) + (b + 6) := Nat.succ_mul _ _
    rw [wayB, List.length_append, viaS_len, hm]
    generalize names.getD i [] = n at *
    generalize i * (b + 6) = z at *
    split
    · rw [List.length_nil]; omega
    · rw [List.length_append, List.length_cons, List.length_cons, List.length_nil]; omega
end Tk
end Go.Proofs.YtdlbmfgajgefdaaGreatDoor
namespace Go.Proofs.YtdlbmfgajgefdaaGreatDoor
open Go.RowKit
namespace Tk

def lightM (M T R B : ByteArray) (l tl : List (Bs × Bs)) : Bool := decide (M.size ≤ 40) && (decide (T.size ≤ 200) && (decide (R.size ≤ 100) && (decide (B.size ≤ 400) && (lightU l && lightT tl))))
theorem lightM_parts (M T R B : ByteArray) (l tl : List (Bs × Bs)) (h : lightM M T R B l tl = true) : (M.size ≤ 40 ∧ T.size ≤ 200 ∧ R.size ≤ 100 ∧ B.size ≤ 400) ∧ (l.length ≤ 20 ∧ sumF l ≤ 680) ∧ tl.length ≤ 10 ∧ sumF tl ≤ 340 := by
  unfold lightM at h
  simp only [Bool.and_eq_true, decide_eq_true_eq] at h
  obtain ⟨h1, h2, h3, h4, h5, h6⟩ := h
  exact ⟨⟨h1, h2, h3, h4⟩, lightU_parts l h5, lightT_parts tl h6⟩
/-- no more than a machine holds -/
def SizedF (l : List (Bs × Bs)) : Prop := (∀ f ∈ l, f.1.length ≤ 140737488351232 ∧ f.2.length ≤ 140737488351232) ∧ l.length ≤ 140737488351232

set_option maxHeartbeats 8000000 in
set_option maxRecDepth 100000 in
theorem lightMsg_any (M T : ByteArray) (s : Int) (R : ByteArray) (mi : Int) (vf : Value) (B : ByteArray) (vt : Value) (l tl : List (Bs × Bs)) (w : World) (hs : IsFlds w vf l) (ht : IsFlds w vt tl) (hz : SizedF l) (hzt : SizedF tl)
    (hM : M.size ≤ 140737488351232) (hT : T.size ≤ 140737488351232) (hR : R.size ≤ 140737488351232) (hB : B.size ≤ 140737488351232) :
    Calls Tryz.prog 50 #[.agg (msgC M T s R mi vf B vt)] w fun e w' => e = .returned (.bool (lightM M T R B l tl)) ∧ Below w.heap.size w w' := by
  obtain ⟨a, cap, rfl⟩ : ∃ a cap, vf = .slice a l.length cap := by obtain ⟨a, c, h, -⟩ := hs; exact ⟨a, c, h⟩
  obtain ⟨at2, capt, rfl⟩ : ∃ a cap, vt = .slice a tl.length cap := by obtain ⟨a, c, h, -⟩ := ht; exact ⟨a, c, h⟩
  have hX := Box.new w 24 (msgC M T s R mi (.slice a l.length cap) B (.slice at2 tl.length capt))
  have hB0 := below_alloc w (.cells (msgC M T s R mi (.slice a l.length cap) B (.slice at2 tl.length capt)) 24)
  have HL1 := Lib.hid (lightTwenty_any _ l _ (isFlds_below hs hB0) hz.1 hz.2)
  have HL2 := Lib.hid (fun n => lightTen_any _ tl _ (isFlds_below ht (below_some_draws hB0 n)) hzt.1 hzt.2)
  have HX := Lib.hid hX
  have HB0 := Lib.hid hB0
  have hv : lightM M T R B l tl = (decide (M.size ≤ 40) && (decide (T.size ≤ 200) && (decide (R.size ≤ 100) && (decide (B.size ≤ 400) && (lightU l && lightT tl))))) := rfl
  rw [hv]
  have c0 : (w.alloc (.cells (msgC M T s R mi (.slice a l.length cap) B (.slice at2 tl.length capt)) 24)).cell? ⟨w.heap.size, 0, none⟩ = some (.string M) := hX.cell 0 _ rfl
  have c1 : (w.alloc (.cells (msgC M T s R mi (.slice a l.length cap) B (.slice at2 tl.length capt)) 24)).cell? ⟨w.heap.size, 1, none⟩ = some (.string T) := hX.cell 1 _ rfl
  have c3 : (w.alloc (.cells (msgC M T s R mi (.slice a l.length cap) B (.slice at2 tl.length capt)) 24)).cell? ⟨w.heap.size, 3, none⟩ = some (.string R) := hX.cell 3 _ rfl
  have c6 : (w.alloc (.cells (msgC M T s R mi (.slice a l.length cap) B (.slice at2 tl.length capt)) 24)).cell? ⟨w.heap.size, 6, none⟩ = some (.string B) := hX.cell 6 _ rfl
  have c5 : (w.alloc (.cells (msgC M T s R mi (.slice a l.length cap) B (.slice at2 tl.length capt)) 24)).cell? ⟨w.heap.size, 5, none⟩ = some (.slice a l.length cap) := hX.cell 5 _ rfl
  have c7 : (w.alloc (.cells (msgC M T s R mi (.slice a l.length cap) B (.slice at2 tl.length capt)) 24)).cell? ⟨w.heap.size, 7, none⟩ = some (.slice at2 tl.length capt) := hX.cell 7 _ rfl
  clear hs ht hz hzt hX hB0 hv
  unfold msgC at *
  generalize lightU l = d5 at *
  generalize lightT tl = d6 at *
  by_cases h0 : M.size ≤ 40
  rotate_left
  · have m0 : ¬ ((M.size : Int) ≤ 40) := by omega
    rw [decide_eq_false h0]
    clear h0
    go_enter Tryz.func50, Tryz.ntmps50
    go_wp2_with fail
    go_ret
    exact ⟨rfl, HB0.out⟩
  have m0 : (M.size : Int) ≤ 40 := by omega
  by_cases h1 : T.size ≤ 200
  rotate_left
  · have m1 : ¬ ((T.size : Int) ≤ 200) := by omega
    rw [decide_eq_true h0, decide_eq_false h1]
    clear h0 h1
    go_enter Tryz.func50, Tryz.ntmps50
    go_wp2_with fail
    go_ret
    exact ⟨rfl, HB0.out⟩
  have m1 : (T.size : Int) ≤ 200 := by omega
  by_cases h2 : R.size ≤ 100
  rotate_left
  · have m2 : ¬ ((R.size : Int) ≤ 100) := by omega
    rw [decide_eq_true h0, decide_eq_true h1, decide_eq_false h2]
    clear h0 h1 h2
    go_enter Tryz.func50, Tryz.ntmps50
    go_wp2_with fail
    go_ret
    exact ⟨rfl, HB0.out⟩
  have m2 : (R.size : Int) ≤ 100 := by omega
  by_cases h3 : B.size ≤ 400
  rotate_left
  · have m3 : ¬ ((B.size : Int) ≤ 400) := by omega
    rw [decide_eq_true h0, decide_eq_true h1, decide_eq_true h2, decide_eq_false h3]
    clear h0 h1 h2 h3
    go_enter Tryz.func50, Tryz.ntmps50
    go_wp2_with fail
    go_ret
    exact ⟨rfl, HB0.out⟩
  have m3 : (B.size : Int) ≤ 400 := by omega
  rw [decide_eq_true h0, decide_eq_true h1, decide_eq_true h2, decide_eq_true h3]
  clear h0 h1 h2 h3
  cases d5
  · go_enter Tryz.func50, Tryz.ntmps50
    go_wp2_with fail
    refine HL1.out.mono ?_
    rintro e w1 ⟨rfl, n, rfl⟩
    go_wp2_with fail
    go_ret
    exact ⟨rfl, below_some_draws HB0.out n⟩
  · go_enter Tryz.func50, Tryz.ntmps50
    go_wp2_with fail
    refine HL1.out.mono ?_
    rintro e w1 ⟨rfl, n, rfl⟩
    go_wp2_with fail
    refine (HL2.out n).mono ?_
    rintro e w1 ⟨rfl, n2, rfl⟩
    go_wp2_with fail
    go_ret
    exact ⟨rfl, below_some_draws HB0.out (n + n2)⟩

set_option maxHeartbeats 4000000 in
set_option maxRecDepth 100000 in
theorem light07_any (M T : ByteArray) (s : Int) (R : ByteArray) (mi : Int) (vf : Value) (B : ByteArray) (vt : Value) (l tl : List (Bs × Bs)) (w : World) (hs : IsFlds w vf l) (ht : IsFlds w vt tl) (hz : SizedF l) (hzt : SizedF tl)
    (hM : M.size ≤ 140737488351232) (hT : T.size ≤ 140737488351232) (hR : R.size ≤ 140737488351232) (hB : B.size ≤ 140737488351232) :
    Calls Tryz.prog 9 #[.agg (msgC M T s R mi vf B vt)] w fun e w' => e = .returned (.bool (lightM M T R B l tl)) ∧ Below w.heap.size w w' := by
  have hX := Box.new w 24 (msgC M T s R mi vf B vt)
  have hB0 := below_alloc w (.cells (msgC M T s R mi vf B vt) 24)
  have HL := Lib.hid (lightMsg_any M T s R mi vf B vt l tl _ (isFlds_below hs hB0) (isFlds_below ht hB0) hz hzt hM hT hR hB)
  have HB0 := Lib.hid hB0
  have hsz := hB0.size
  have c0 := hX.cell 0 _ rfl
  have c1 := hX.cell 1 _ rfl
  have c2 := hX.cell 2 _ rfl
  have c3 := hX.cell 3 _ rfl
  have c4 := hX.cell 4 _ rfl
  have c5 := hX.cell 5 _ rfl
  have c6 := hX.cell 6 _ rfl
  have c7 := hX.cell 7 _ rfl
  obtain ⟨a, cap, rfl⟩ : ∃ a cap, vf = .slice a l.length cap := by obtain ⟨a, c, h, -⟩ := hs; exact ⟨a, c, h⟩
  obtain ⟨at2, capt, rfl⟩ : ∃ a cap, vt = .slice a tl.length cap := by obtain ⟨a, c, h, -⟩ := ht; exact ⟨a, c, h⟩
  generalize lightM M T R B l tl = d at *
  clear hs ht hz hzt hX hB0 hM hT hR hB
  unfold msgC at *
  go_enter Tryz.func9, Tryz.ntmps9
  go_wp2_with fail
  refine HL.out.mono ?_
  rintro e w1 ⟨rfl, hb⟩
  have HB1 := Lib.hid (HB0.out.trans (hb.mono hsz))
  clear hb
  go_wp2_with fail
  go_ret
  exact ⟨rfl, HB1.out⟩

set_option maxHeartbeats 1000000 in
theorem one07_any (x y : ByteArray) (w : World) :
    Calls Tryz.prog 49 #[.string x, .string y] w fun e w' => e = .returned (.agg #[.string x, .string y]) ∧ Below w.heap.size w w' := by
  have HN := Lib.hid (Two.new w 32 (.string x) (.string y))
  have HB0 := Lib.hid (below_alloc w (.cells #[.string x, .string y] 32))
  go_enter Tryz.func49, Tryz.ntmps49
  go_wp2_with fail
  have q0 := HN.out.c0
  have q1 := HN.out.c1
  generalize w.alloc (.cells #[.string x, .string y] 32) = W at *
  refine bodyPost_ret (v := .agg #[.string x, .string y]) ?_ rfl ⟨rfl, HB0.out⟩
  simp [results, Tryz.results49, go_sem, q0, q1]
end Tk
end Go.Proofs.YtdlbmfgajgefdaaGreatDoor
namespace Go.Proofs.YtdlbmfgajgefdaaGreatDoor
open Go.RowKit
namespace Tk

theorem itoaS_any (i : Nat) (w : World) (h : i < 100) : ItoaAt (i : Int) w := by
  have hI := Tryz.strconv_Itoa_small i h w
  unfold ItoaAt
  refine hI.mono ?_
  rintro e w' ⟨rfl, rfl⟩
  refine ⟨?_, Below.refl _ _⟩
  unfold digI
  rw [Lib.itoa_nonneg]; rfl
theorem fcells_lit3 (w : World) (a b c d e f : Bs) : IsFlds (w.alloc (Obj.cells #[.string (mkS a), .string (mkS b), .string (mkS c), .string (mkS d), .string (mkS e), .string (mkS f)] 32)) (.slice (some ⟨w.heap.size, 0, none⟩) 3 3) [(a, b), (c, d), (e, f)] := by
  refine ⟨_, 3, rfl, Nat.le_refl _, fun j t hj => ⟨w.heap.size, 0, rfl, ?_⟩⟩
  match j, hj with
  | 0, hj => cases hj; exact ⟨by rw [World.cell?_alloc_new]; rfl, by rw [World.cell?_alloc_new]; rfl⟩
  | 1, hj => cases hj; exact ⟨by rw [World.cell?_alloc_new]; rfl, by rw [World.cell?_alloc_new]; rfl⟩
  | 2, hj => cases hj; exact ⟨by rw [World.cell?_alloc_new]; rfl, by rw [World.cell?_alloc_new]; rfl⟩
theorem ex_strip : stripL [([67, 111, 110, 110, 101, 99, 116, 105, 111, 110], [120, 44, 32, 99, 108, 111, 115, 101]), ([88], [49]), ([89], [50])] = [([89], [50])] := by decide +kernel
theorem len_via0 (n : Int) (p : Bs) : (viaL [] n p).length = 1 := by unfold viaL; rw [set_len]; rfl

set_option maxHeartbeats 8000000 in
set_option maxRecDepth 100000 in
theorem lives07_any (w : World) : Calls Tryz.prog 8 #[] w fun e w' => e = .returned (.bool true) ∧ Below w.heap.size w w' := by
  have HOne := Lib.hid (fun (x y : ByteArray) (W : World) => one07_any x y W)
  have HSt : Hid (∀ W : World, Calls Tryz.prog 15 #[.slice (some ⟨W.heap.size, 0, none⟩) 3 3] (W.alloc (Obj.cells #[.string ⟨#[67, 111, 110, 110, 101, 99, 116, 105, 111, 110]⟩, .string ⟨#[120, 44, 32, 99, 108, 111, 115, 101]⟩, .string ⟨#[88]⟩, .string ⟨#[49]⟩, .string ⟨#[89]⟩, .string ⟨#[50]⟩] 32)) fun e w' => ∃ v', e = .returned v' ∧ w'.ownsRow W.heap.size 32 2 v' 1 (fcells [([89], [50])]) ∧ Below W.heap.size W w') := by
    intro W
    have h := strip_any _ _ _ (fcells_lit3 W [67, 111, 110, 110, 101, 99, 116, 105, 111, 110] [120, 44, 32, 99, 108, 111, 115, 101] [88] [49] [89] [50]) (fun _ _ h => by injection h with h1; cases h1) (by decide) (by decide)
    refine h.mono ?_
    rintro e w' ⟨v', rfl, ho, hb⟩
    rw [ex_strip] at ho
    exact ⟨v', rfl, own_base ho (by simp), (below_alloc W _).trans (hb.mono (by simp))⟩
  have HVi : Hid (∀ W : World, Calls Tryz.prog 17 #[.slice none 0 0, .int .i64 1, .string ⟨#[112]⟩] W fun e w' => ∃ a c, e = .returned (.slice a 1 c) ∧ Below W.heap.size W w') := by
    intro W
    have h := via_any (.slice none 0 0) [] 1 [112] W ⟨none, 0, rfl, Nat.le_refl _, fun j f hj => by simp at hj⟩ (by decide) (by decide) (by decide) (by unfold digI; rw [show (1 : Int) = ((1 : Nat) : Int) from rfl, Lib.itoa_nonneg, Lib.decDigits_one (by decide)]; decide) (itoaS_any 1 W (by decide))
    refine h.mono ?_
    rintro e w' ⟨v', rfl, ho, hb⟩
    have hl := len_via0 1 [112]
    obtain ⟨a, c, rfl, -⟩ := isFlds_own ho
    rw [hl]
    exact ⟨a, c, rfl, hb⟩
  have hfe := field_eql
  go_enter Tryz.func8, Tryz.ntmps8
  go_wp2_with fail
  refine (HOne.out _ _ _).mono ?_
  rintro e w1 ⟨rfl, hb⟩
  have HB1 := Lib.hid hb
  clear hb
  go_wp2_with fail
  refine (HOne.out _ _ _).mono ?_
  rintro e w2 ⟨rfl, hb⟩
  have HB2 := Lib.hid (HB1.out.trans (hb.mono HB1.out.size))
  clear hb
  go_wp2_with fail
  refine (HOne.out _ _ _).mono ?_
  rintro e w3 ⟨rfl, hb⟩
  have HB3 := Lib.hid (HB2.out.trans (hb.mono HB2.out.size))
  clear hb
  go_wp2_with fail
  refine (HSt.out _).mono ?_
  rintro e w4 ⟨v4, rfl, ho, hb⟩
  have HO4 := Lib.hid ho
  have HB4 := Lib.hid (HB3.out.trans (hb.mono HB3.out.size))
  obtain ⟨gr, c4, rfl⟩ : ∃ gr c, v4 = .slice (some ⟨gr, 0, none⟩) 1 c := by
    rcases ho.2 with ⟨-, hn⟩ | ⟨gr, cap, cur, hv, -⟩
    · cases hn
    · exact ⟨gr, cap, hv⟩
  clear ho hb HSt
  generalize w3.heap.size = gB at *
  go_wp2_with fail
  refine wp_region_held_drew (S := (fun W => W.ownsRow gB 32 2 (.slice (some ⟨gr, 0, none⟩) 1 c4) 1 (fcells [([89], [50])]))) (by kernel_rfl) HO4.out (fun hHeld => ?_)
  refine wpAnyH_take (i := 0) (v := ?_) rfl (by kernel_rfl) (by kernel_rfl) (by kernel_rfl) (fun _ _ _ h => h) (Or.inl ⟨by kernel_rfl, ?_⟩) (by assumption) ?_
  case refine_2 => (intro W hSw; go_simp; try with_reducible rfl)
  try simp only [Act.put, List.getElem_toArray, List.getElem_cons_zero, List.setIfInBounds_toArray, List.set_cons_zero, List.set_cons_succ]
  refine wpAnyH_take (i := 1) (v := ?_) rfl (by kernel_rfl) (by kernel_rfl) (by kernel_rfl) (fun _ _ _ h => h) (Or.inl ⟨by kernel_rfl, ?_⟩) (by assumption) ?_
  case refine_2 => (intro W hSw; go_simp; try with_reducible rfl)
  try simp only [Act.put, List.getElem_toArray, List.getElem_cons_succ, List.getElem_cons_zero, List.setIfInBounds_toArray, List.set_cons_zero, List.set_cons_succ]
  refine wpAnyH_take (i := 2) (v := ?_) rfl (by kernel_rfl) (by kernel_rfl) (by kernel_rfl) (fun _ _ _ h => h) (Or.inl ⟨by kernel_rfl, ?_⟩) (by assumption) ?_
  case refine_2 => (intro W hSw; go_simp; try with_reducible rfl)
  try simp only [Act.put, List.getElem_toArray, List.getElem_cons_succ, List.getElem_cons_zero, List.setIfInBounds_toArray, List.set_cons_zero, List.set_cons_succ]
  refine wpAnyH_take (i := 3) (v := ?_) rfl (by kernel_rfl) (by kernel_rfl) (by kernel_rfl) (fun _ _ _ h => h) (Or.inl ⟨by kernel_rfl, ?_⟩) (by assumption) ?_
  case refine_2 => (intro W hSw; go_simp; try with_reducible rfl)
  try simp only [Act.put, List.getElem_toArray, List.getElem_cons_succ, List.getElem_cons_zero, List.setIfInBounds_toArray, List.set_cons_zero, List.set_cons_succ]
  refine wpAnyH_take (i := 4) (v := ?_) rfl (by kernel_rfl) (by kernel_rfl) (by kernel_rfl) (fun _ _ _ h => h) (Or.inl ⟨by kernel_rfl, ?_⟩) (by assumption) ?_
  case refine_2 => (intro W hSw; go_simp; try with_reducible rfl)
  try simp only [Act.put, List.getElem_toArray, List.getElem_cons_succ, List.getElem_cons_zero, List.setIfInBounds_toArray, List.set_cons_zero, List.set_cons_succ]
  refine wpAnyH_take (i := 5) (v := ?_) rfl (by kernel_rfl) (by kernel_rfl) (by kernel_rfl) (fun _ _ _ h => h) (Or.inl ⟨by kernel_rfl, ?_⟩) (by assumption) ?_
  case refine_2 => (intro W hSw; go_simp; try with_reducible rfl)
  try simp only [Act.put, List.getElem_toArray, List.getElem_cons_succ, List.getElem_cons_zero, List.setIfInBounds_toArray, List.set_cons_zero, List.set_cons_succ]
  refine wpAnyH_take (i := 6) (v := ?_) rfl (by kernel_rfl) (by kernel_rfl) (by kernel_rfl) (fun _ _ _ h => h) (Or.inl ⟨by kernel_rfl, ?_⟩) (by assumption) ?_
  case refine_2 => (intro W hSw; have u0 : W.cell? ⟨gr, 0, none⟩ = some (.string ⟨#[89]⟩) := hSw.cellAt 0 (by decide); have u1 : W.cell? ⟨gr, 1, none⟩ = some (.string ⟨#[50]⟩) := hSw.cellAt 1 (by decide); go_simp; try with_reducible rfl)
  try simp only [Act.put, List.getElem_toArray, List.getElem_cons_succ, List.getElem_cons_zero, List.setIfInBounds_toArray, List.set_cons_zero, List.set_cons_succ]
  refine wpAnyH_ready (rs := [7]) (by kernel_rfl) (by simp) ?_
  refine AllReadyH.cons rfl (fun K hK => ?_) AllReadyH.nil
  go_simp
  refine (HOne.out _ _ _).mono ?_
  rintro e w5 ⟨rfl, hb0⟩
  have hb : Below w4.heap.size w4 w5 := ((Below.refl w4.heap.size w4).drew).trans hb0
  have hHeld5 := own_keep2f HO4.out hb
  have HB5 := Lib.hid (HB4.out.trans (hb.mono HB4.out.size))
  clear hb hb0
  go_simp
  refine hK.out _ _ (by assumption) (fun hHeld2 => ?_)
  clear hK K hHeld2
  try simp only [Act.put, List.getElem_toArray, List.getElem_cons_succ, List.getElem_cons_zero, List.setIfInBounds_toArray, List.set_cons_zero, List.set_cons_succ]
  refine wpAnyH_take (i := 8) (v := .bool true) rfl (by kernel_rfl) (by kernel_rfl) (by kernel_rfl) (fun _ _ _ h => h) (Or.inl ⟨by kernel_rfl, ?_⟩) (by assumption) ?_
  case refine_1 => (intro W hSw; go_simp; try with_reducible rfl)
  try simp only [Act.put, List.getElem_toArray, List.getElem_cons_succ, List.getElem_cons_zero, List.setIfInBounds_toArray, List.set_cons_zero, List.set_cons_succ]
  refine wpAnyH_take (i := 9) (v := ?_) rfl (by kernel_rfl) (by kernel_rfl) (by kernel_rfl) (fun _ _ _ h => h) (Or.inl ⟨by kernel_rfl, ?_⟩) (by assumption) ?_
  case refine_2 => (intro W hSw; go_simp; try with_reducible rfl)
  try simp only [Act.put, List.getElem_toArray, List.getElem_cons_succ, List.getElem_cons_zero, List.setIfInBounds_toArray, List.set_cons_zero, List.set_cons_succ]
  refine wpAnyH_take (i := 10) (v := ?_) rfl (by kernel_rfl) (by kernel_rfl) (by kernel_rfl) (fun _ _ _ h => h) (Or.inl ⟨by kernel_rfl, ?_⟩) (by assumption) ?_
  case refine_2 => (intro W hSw; go_simp; try with_reducible rfl)
  try simp only [Act.put, List.getElem_toArray, List.getElem_cons_succ, List.getElem_cons_zero, List.setIfInBounds_toArray, List.set_cons_zero, List.set_cons_succ]
  refine wpAnyH_ready (rs := [11]) (by kernel_rfl) (by simp) ?_
  refine AllReadyH.cons rfl (fun K hK => ?_) AllReadyH.nil
  go_simp
  refine (HVi.out _).mono ?_
  rintro e w6 ⟨a6, c6, rfl, hb⟩
  have hHeld6 := own_keep2f hHeld5 hb
  have HB6 := Lib.hid (HB5.out.trans (hb.mono HB5.out.size))
  clear hb
  go_simp
  refine hK.out _ _ (by assumption) (fun hHeld2 => ?_)
  clear hK K hHeld2
  try simp only [Act.put, List.getElem_toArray, List.getElem_cons_succ, List.getElem_cons_zero, List.setIfInBounds_toArray, List.set_cons_zero, List.set_cons_succ]
  refine wpAnyH_take (i := 12) (v := ?_) rfl (by kernel_rfl) (by kernel_rfl) (by kernel_rfl) (fun _ _ _ h => h) (Or.inl ⟨by kernel_rfl, ?_⟩) (by assumption) ?_
  case refine_2 => (intro W hSw; go_simp; try with_reducible rfl)
  try simp only [Act.put, List.getElem_toArray, List.getElem_cons_succ, List.getElem_cons_zero, List.setIfInBounds_toArray, List.set_cons_zero, List.set_cons_succ]
  refine wpAnyH_take (i := 13) (v := ?_) rfl (by kernel_rfl) (by kernel_rfl) (by kernel_rfl) (fun _ _ _ h => h) (Or.inl ⟨by kernel_rfl, ?_⟩) (by assumption) ?_
  case refine_2 => (intro W hSw; go_simp; try with_reducible rfl)
  try simp only [Act.put, List.getElem_toArray, List.getElem_cons_succ, List.getElem_cons_zero, List.setIfInBounds_toArray, List.set_cons_zero, List.set_cons_succ]
  refine wpAnyH_take (i := 14) (v := ?_) rfl (by kernel_rfl) (by kernel_rfl) (by kernel_rfl) (fun _ _ _ h => h) (Or.inl ⟨by kernel_rfl, ?_⟩) (by assumption) ?_
  case refine_2 => (intro W hSw; go_simp; try with_reducible rfl)
  try simp only [Act.put, List.getElem_toArray, List.getElem_cons_succ, List.getElem_cons_zero, List.setIfInBounds_toArray, List.set_cons_zero, List.set_cons_succ]
  refine wpAnyH_take (i := 15) (v := ?_) rfl (by kernel_rfl) (by kernel_rfl) (by kernel_rfl) (fun _ _ _ h => h) (Or.inl ⟨by kernel_rfl, ?_⟩) (by assumption) ?_
  case refine_2 => (intro W hSw; go_simp; try with_reducible rfl)
  try simp only [Act.put, List.getElem_toArray, List.getElem_cons_succ, List.getElem_cons_zero, List.setIfInBounds_toArray, List.set_cons_zero]
  refine wpAnyH_done (by kernel_rfl) ?_ _
  clear hHeld hHeld5 hHeld6
  go_wp2_with fail
  go_ret
  exact ⟨rfl, HB6.out⟩
end Tk
end Go.Proofs.YtdlbmfgajgefdaaGreatDoor
namespace Go.Proofs.YtdlbmfgajgefdaaGreatDoor
open Go.RowKit Go.ChangeShapes Go.WideShapes
namespace Tk

structure TenH (w : World) : Prop where
  big : 0 < w.heap.size
  tab : Lib.TabIs Tryz.prog w "internal/strconv.uint64pow10" .u64 Lib.pow10Tab
theorem gTenH : Tryz.prog.globalNamed "internal/strconv.uint64pow10" = some 0 := by kernel_rfl
theorem TenH.later {w w' : World} (h : TenH w) (hb : Below w.heap.size w w') : TenH w' :=
  ⟨Nat.lt_of_lt_of_le h.big hb.size, var?_below hb gTenH h.big h.tab⟩
theorem itoaG_any (n : Int) (w : World) (hT : TenH w) (h0 : -9223372036854775808 ≤ n) (h1 : n ≤ 9223372036854775807) : ItoaAt n w :=
  (Tryz.strconv_Itoa n h0 h1 w hT.tab).mono fun _ _ ⟨h1, _, _, h2⟩ => ⟨h1, h2 ▸ Lib.below_grow _ _ (Nat.le_refl _) _ _⟩
theorem nDigits_le : ∀ (k u : Nat), u < 10 ^ (k + 1) → Lib.nDigits u ≤ k + 1
  | 0, u, h => by rw [Lib.nDigits_small (by omega)]; omega
  | k + 1, u, h => by
    by_cases hu : u < 10
    · rw [Lib.nDigits_small hu]; omega
    · rw [Lib.nDigits_big hu]
      have := nDigits_le k (u / 10) (by rw [Nat.pow_succ] at h; omega)
      omega
theorem digI_len (n : Int) (h0 : -9223372036854775808 ≤ n) (h1 : n ≤ 9223372036854775807) : (digI n).length ≤ 100 := by
  unfold digI
  by_cases h : n < 0
  · obtain ⟨u, rfl⟩ : ∃ u : Nat, n = -(u : Int) := ⟨n.natAbs, by omega⟩
    rw [Lib.itoa_neg u (by omega), List.length_cons, Lib.decDigits_length]
    have := nDigits_le 18 u (by omega)
    omega
  · obtain ⟨u, rfl⟩ : ∃ u : Nat, n = (u : Int) := ⟨n.toNat, by omega⟩
    rw [Lib.itoa_nonneg, Lib.decDigits_length]
    have := nDigits_le 18 u (by omega)
    omega

/-- one variable off the list -/
theorem laid_atH {P : Program} {W : World} : ∀ {l : List (String × DataW Unit)} {ps : List MemPlace}, DataW.LaidVars P W l ps → ∀ (n : String) (d : DataW Unit), (n, d) ∈ l →
    ∃ g t cs fuel p, P.globalNamed n = some g ∧ (P.globals[g]?).map (·.type) = some t ∧ W.var? P n = some cs ∧ DataW.trod (fun _ => ()) P W 0 (fun _ => true) false fuel t cs.toList = some (d, p)
  | [], _, _, n, d, h => by simp at h
  | (m, e) :: r, ps, h, n, d, hm => by
    obtain ⟨g, t, cs, fuel, p, q, h1, h2, h3, h4, h5, -⟩ := h
    rcases List.mem_cons.1 hm with hm | hm
    · injection hm with a b
      subst a b
      exact ⟨g, t, cs, fuel, p, h1, h2, h3, h4⟩
    · exact laid_atH h5 n d hm

theorem gTenTypeH : (Tryz.prog.globals[0]?).map (·.type) = some 176 := by kernel_rfl
theorem cellsU64H : Tryz.prog.cellsOf 153 = 1 := by kernel_rfl
theorem cellsTensH : Tryz.prog.cellsOf 176 = 20 := by kernel_rfl

theorem tenH_of {l : List (String × DataW Unit)} {W : World} (h : laidMet Tryz.prog l W) (h2 : ("internal/strconv.uint64pow10", Lib.tabData .u64 Lib.pow10Tab) ∈ l) : TenH W := by
  obtain ⟨ps, hl, -⟩ := h
  obtain ⟨g', t', cs', fuel', p', b1, b2, b3, b4⟩ := laid_atH hl _ _ h2
  obtain rfl := Option.some.inj (gTenH.symm.trans b1)
  obtain rfl := Option.some.inj (gTenTypeH.symm.trans b2)
  have hcs := Lib.cells_of_tab Tryz.underlying176 Tryz.underlying153 cellsU64H cellsTensH b4
  refine ⟨?_, by unfold Lib.TabIs; rw [b3, ← hcs]⟩
  refine Nat.lt_of_not_le fun hle => ?_
  have h0 : W.cell? ⟨0, 0, none⟩ = cs'[0]? := World.var?_cell gTenH b3 0
  rw [← Array.getElem?_toList, hcs] at h0
  simp only [World.cell?, Array.getElem?_eq_none hle] at h0
  cases h0

end Tk
end Go.Proofs.YtdlbmfgajgefdaaGreatDoor
namespace Go.Proofs.YtdlbmfgajgefdaaGreatDoor
open Go.RowKit
namespace Tk

/-- the byte at place t when the first i are in small letters -/
def mixR (l : Bs) (i t : Nat) : UInt8 := if t < i then lowB (l.getD t 0) else l.getD t 0
theorem bytesRow_atR (s : ByteArray) (cap t : Nat) (h : t < s.size) : (bytesRow s cap)[t]? = some (.int .u8 (((bs s).getD t 0).toNat : Int)) := by
  unfold bytesRow
  rw [Array.getElem?_append_left (by simpa using h), Array.getElem?_map]
  have e : (bs s).getD t 0 = s.data[t]'h := by rw [getD_bs s t h]; rfl
  rw [e, Array.getElem?_eq_getElem h]; rfl
theorem lowB_add (c : UInt8) (h0 : 65 ≤ c.toNat) (h1 : c.toNat ≤ 90) : ((lowB c).toNat : Int) = (c.toNat : Int) + 32 := by
  have := lowB_up c h0 h1; omega

set_option maxRecDepth 100000 in
set_option maxHeartbeats 4000000 in
theorem refLower_any (s : ByteArray) (w : World) (hs : s.size ≤ 1099511627776) :
    Calls Tryz.prog 57 #[.string s] w (StrPost (lowL (bs s)) w) := by
  have HL := Lib.hid (length_bs s)
  have hconv := run_bytes_of_string (P := Tryz.prog) w 9 84 5 s Tryz.underlying9 Tryz.underlying84 Tryz.underlying5
  have hC : ∀ t, t < s.size → (bytesRow s (grownCap w s.size 0 5))[t]? = some (.int .u8 (((bs s).getD t 0).toNat : Int)) := fun t h => bytesRow_atR s _ t h
  generalize bytesRow s (grownCap w s.size 0 5) = C at *
  generalize grownCap w s.size 0 5 = cap at *
  have HC := Lib.hid hC
  clear hC
  go_enter Tryz.func57, Tryz.ntmps57
  go_wp2_with fail
  go_loopw [4] (fun vi wr => ∃ i : Nat, i ≤ s.size ∧ vi = .int .i64 i ∧ Hid (∀ t, t < s.size → wr.cell? ⟨w.heap.size, t, none⟩ = some (.int .u8 ((mixR (bs s) i t).toNat : Int)) ∧ wr.frozen? ⟨w.heap.size, t, none⟩ = false) ∧ Hid (Below w.heap.size w wr)) (fun vi _ => s.size - (RowKit.intOf vi).toNat)
  case atStart =>
    refine ⟨0, Nat.zero_le _, rfl, ?_, ?_⟩
    · intro t ht
      have h1 : ((w.alloc (.cells C 5 (C.size, C.size + 1))).drew).cell? ⟨w.heap.size, t, none⟩ = C[t]? := World.cell?_alloc_mark w C 5 _ t
      have hlt : t < C.size := by
        refine Nat.lt_of_not_le fun hle => ?_
        have := HC.out t ht
        rw [Array.getElem?_eq_none hle] at this
        cases this
      have h2 : ((w.alloc (.cells C 5 (C.size, C.size + 1))).drew).frozen? ⟨w.heap.size, t, none⟩ = _ := World.frozen?_alloc_mark w C 5 _ _ t
      refine ⟨by rw [h1, HC.out t ht]; rfl, ?_⟩
      rw [h2]
      simp; omega
    · exact ((Below.refl _ _).alloc (Nat.le_refl _) _).drew
  case round =>
    obtain ⟨i, hi, rfl, HM, HB⟩ := hrel
    rename World => W
    by_cases hlt : i < s.size
    · obtain ⟨hc, hf⟩ := HM.out i hlt
      have e : mixR (bs s) i i = (bs s).getD i 0 := by unfold mixR; rw [if_neg (by omega)]
      rw [e] at hc
      have nx : ∀ W' : World, (∀ t, t < s.size → t ≠ i → W'.cell? ⟨w.heap.size, t, none⟩ = W.cell? ⟨w.heap.size, t, none⟩) → W'.cell? ⟨w.heap.size, i, none⟩ = some (.int .u8 ((lowB ((bs s).getD i 0)).toNat : Int)) → (∀ t, W'.frozen? ⟨w.heap.size, t, none⟩ = W.frozen? ⟨w.heap.size, t, none⟩) →
          Hid (∀ t, t < s.size → W'.cell? ⟨w.heap.size, t, none⟩ = some (.int .u8 ((mixR (bs s) (i + 1) t).toNat : Int)) ∧ W'.frozen? ⟨w.heap.size, t, none⟩ = false) := by
        intro W' h1 h2 h3 t ht
        obtain ⟨g1, g2⟩ := HM.out t ht
        refine ⟨?_, by rw [h3]; exact g2⟩
        by_cases hti : t = i
        · subst hti
          rw [h2]
          unfold mixR; rw [if_pos (by omega)]
        · rw [h1 t ht hti, g1]
          have : mixR (bs s) i t = mixR (bs s) (i + 1) t := by
            unfold mixR
            by_cases h3 : t < i
            · rw [if_pos h3, if_pos (by omega)]
            · rw [if_neg h3, if_neg (by omega)]
          rw [this]
      have NX := Lib.hid nx
      clear nx e
      generalize (bs s).getD i 0 = c at *
      have hcl := c.toNat_lt
      by_cases h0 : 65 ≤ c.toNat ∧ c.toNat ≤ 90
      · have up := lowB_add c h0.1 h0.2
        have UP := Lib.hid up
        have k0 : (65 : Int) ≤ (c.toNat : Int) := by omega
        have k1 : (c.toNat : Int) ≤ 90 := by omega
        clear up h0
        go_wp2_with fail
        have hcell := hc
        refine ⟨⟨i + 1, by omega, by go_num, NX.out _ (fun t ht hti => World.cell?_setCell_other W ⟨w.heap.size, i, none⟩ ⟨w.heap.size, t, none⟩ _ (by intro e; injection e with _ e2; exact hti e2.symm)) (by rw [World.cell?_setCell_same _ _ _ hcell, UP.out]) (fun t => World.frozen?_setCell _ _ _ _), ?_⟩, by simp [RowKit.intOf]; omega⟩
        exact HB.out.setCell (p := ⟨w.heap.size, i, none⟩) (Nat.le_refl _) _
      · have hsame := lowB_same c h0
        have HS := Lib.hid hsame
        clear hsame
        by_cases h65 : 65 ≤ c.toNat
        · have k0 : (65 : Int) ≤ (c.toNat : Int) := by omega
          have k1 : ¬ (c.toNat : Int) ≤ 90 := by omega
          clear h0
          go_wp2_with fail
          exact ⟨⟨i + 1, by omega, by go_num, NX.out _ (fun _ _ _ => rfl) (by rw [HS.out]; exact hc) (fun _ => rfl), HB⟩, by simp [RowKit.intOf]; omega⟩
        · have k0 : ¬ (65 : Int) ≤ (c.toNat : Int) := by omega
          clear h0
          go_wp2_with fail
          exact ⟨⟨i + 1, by omega, by go_num, NX.out _ (fun _ _ _ => rfl) (by rw [HS.out]; exact hc) (fun _ => rfl), HB⟩, by simp [RowKit.intOf]; omega⟩
    · have hlen : (lowL (bs s)).length = s.size := by rw [length_lowL, HL.out]
      have hback := run_convert_bytes_back (P := Tryz.prog) W 84 9 5 ⟨w.heap.size, 0, none⟩ cap (lowL (bs s)) Tryz.underlying84 Tryz.underlying5 Tryz.underlying9 (fun j hj => by
        have hj' : j < s.size := by rw [hlen] at hj; exact hj
        have h1 := (HM.out j hj').1
        have e : mixR (bs s) i j = (lowL (bs s))[j] := by
          have hjl : j < (bs s).length := by rw [HL.out]; exact hj'
          have e2 : (lowL (bs s))[j] = lowB ((bs s)[j]'hjl) := by simp [lowL]
          unfold mixR
          rw [if_pos (by omega), e2]
          simp [List.getD, hjl]
        rw [e] at h1
        by_cases hj0 : j = 0
        · subst hj0; simpa [Addr.add] using h1
        · simpa [Addr.add, hj0] using h1)
      rw [hlen] at hback
      go_wp2_with fail
      go_ret
      exact ⟨rfl, HB.out⟩
end Tk
end Go.Proofs.YtdlbmfgajgefdaaGreatDoor
namespace Go.Proofs.YtdlbmfgajgefdaaGreatDoor
open Go.RowKit
namespace Tk

theorem beq_mkR (a b : Bs) : ((mkS a).toList == (mkS b).toList) = decide (a = b) := by
  rw [toList_bs, toList_bs, bs_mkS, bs_mkS]
  by_cases h : a = b <;> simp [h]

set_option maxHeartbeats 1000000 in
theorem rsm_any (a b : ByteArray) (w : World) (ha : a.size ≤ 1099511627776) (hb : b.size ≤ 1099511627776) :
    Calls Tryz.prog 60 #[.string a, .string b] w fun e w' => e = .returned (.bool (decide (lowL (bs a) = lowL (bs b)))) ∧ Below w.heap.size w w' := by
  have HA := Lib.hid (fun W => show Calls Tryz.prog 57 #[.string a] W (fun e w' => e = .returned (.string (mkS (lowL (bs a)))) ∧ Below W.heap.size W w') from refLower_any a W ha)
  have HB := Lib.hid (fun W => show Calls Tryz.prog 57 #[.string b] W (fun e w' => e = .returned (.string (mkS (lowL (bs b)))) ∧ Below W.heap.size W w') from refLower_any b W hb)
  have HE := Lib.hid (beq_mkR (lowL (bs a)) (lowL (bs b)))
  generalize decide (lowL (bs a) = lowL (bs b)) = d at *
  generalize mkS (lowL (bs a)) = x at *
  generalize mkS (lowL (bs b)) = y at *
  go_enter Tryz.func60, Tryz.ntmps60
  go_wp2_with fail
  refine (HA.out _).mono ?_
  rintro e w1 ⟨rfl, hb1⟩
  have HB1 := Lib.hid hb1
  clear hb1
  go_wp2_with fail
  refine (HB.out _).mono ?_
  rintro e w2 ⟨rfl, hb2⟩
  have HB2 := Lib.hid (HB1.out.trans (hb2.mono HB1.out.size))
  clear hb2
  go_wp2_with fail
  go_ret
  exact ⟨by rw [← HE.out]; rfl, HB2.out⟩
end Tk
end Go.Proofs.YtdlbmfgajgefdaaGreatDoor
namespace Go.Proofs.YtdlbmfgajgefdaaGreatDoor
open Go.RowKit
namespace Tk

theorem retB2 {a b : Bool} (h : a = b) : Ending.returned (.bool a) = .returned (.bool b) := by rw [h]

set_option maxHeartbeats 400000 in
theorem rDigit_any (c : UInt8) (w : World) :
    Calls Tryz.prog 121 #[.int .u8 (c.toNat : Int)] w fun e w' => e = .returned (.bool (isDig c)) ∧ w = w' := by
  have hlt := c.toNat_lt
  have HD := Lib.hid (show isDig c = (decide (48 ≤ c.toNat) && decide (c.toNat ≤ 57)) from rfl)
  generalize c.toNat = n at *
  by_cases h0 : 48 ≤ n <;> by_cases h1 : n ≤ 57
  all_goals
    first
    | omega
    | (go_enter Tryz.func121, Tryz.ntmps121
       go_wp2_with fail
       go_ret
       exact ⟨retB2 (by rw [HD.out, Bool.eq_iff_iff]; simp; omega), rfl⟩)

set_option maxHeartbeats 1000000 in
theorem rLetter_any (c : UInt8) (w : World) :
    Calls Tryz.prog 120 #[.int .u8 (c.toNat : Int)] w fun e w' => e = .returned (.bool (isLet c)) ∧ w = w' := by
  have hlt := c.toNat_lt
  have HD := Lib.hid (show isLet c = (decide (65 ≤ c.toNat ∧ c.toNat ≤ 90) || decide (97 ≤ c.toNat ∧ c.toNat ≤ 122)) from rfl)
  generalize c.toNat = n at *
  by_cases h0 : 65 ≤ n <;> by_cases h1 : n ≤ 90 <;> by_cases h2 : 97 ≤ n <;> by_cases h3 : n ≤ 122
  all_goals
    first
    | omega
    | (go_enter Tryz.func120, Tryz.ntmps120
       go_wp2_with fail
       go_ret
       exact ⟨retB2 (by rw [HD.out, Bool.eq_iff_iff]; simp; omega), rfl⟩)

set_option maxHeartbeats 1000000 in
theorem rIn_any (c : UInt8) (s : ByteArray) (w : World) (hs : s.size ≤ 1099511627776) :
    Calls Tryz.prog 122 #[.int .u8 (c.toNat : Int), .string s] w fun e w' => e = .returned (.bool ((bs s).contains c)) ∧ w = w' := by
  go_enter Tryz.func122, Tryz.ntmps122
  go_wp2_with fail
  go_loop [5] (fun v => ∃ i : Nat, i ≤ s.size ∧ v = .int .i64 i ∧ Hid ((bs s).contains c = ((bs s).drop i).contains c)) (fun v => s.size - (RowKit.intOf v).toNat)
  case atStart => exact ⟨0, Nat.zero_le _, rfl, rfl⟩
  case round =>
    obtain ⟨i, hi, rfl, hd⟩ := hrel
    by_cases hlt : i < s.size
    · have D := Lib.hid (bs_drop s i hlt)
      by_cases hc : s[i] = c
      · have e1 : ((s[i].toNat : Int) == (c.toNat : Int)) = true := by rw [hc]; simp
        have fin : (bs s).contains c = true := by rw [hd.out, D.out, List.contains_cons, hc]; simp
        have HF := Lib.hid fin
        clear fin hc
        go_wp2_with fail
        go_ret
        exact ⟨retB2 (by have h := HF.out; simp at h; simp [h]), rfl⟩
      · have e1 : ((s[i].toNat : Int) == (c.toNat : Int)) = false := by
          rw [beq_eq_false_iff_ne]
          intro e
          exact hc (UInt8.toNat_inj.1 (by omega))
        have nx : (bs s).contains c = ((bs s).drop (i + 1)).contains c := by
          rw [hd.out, D.out, List.contains_cons]
          have : (c == s[i]) = false := beq_eq_false_iff_ne.2 (fun e => hc e.symm)
          rw [this, Bool.false_or]
        have HX := Lib.hid nx
        clear nx hc
        go_wp2_with fail
        exact ⟨⟨i + 1, by omega, by go_num, HX⟩, by simp [RowKit.intOf]; omega⟩
    · have fin : (bs s).contains c = false := by rw [hd.out, List.drop_eq_nil_of_le (by rw [length_bs]; omega)]; rfl
      have HF := Lib.hid fin
      clear fin
      go_wp2_with fail
      go_ret
      exact ⟨retB2 (by have h := HF.out; simp at h; simp [h]), rfl⟩

def tmarks : Bs := [33, 35, 36, 37, 38, 39, 42, 43, 45, 46, 94, 95, 96, 124, 126]
theorem kind_tchar (c : UInt8) : decide (2 ≤ kindOf c.toNat) = (isLet c || isDig c || tmarks.contains c) := by
  have := u8_all (fun c => decide (2 ≤ kindOf c.toNat) == (isLet c || isDig c || tmarks.contains c)) (by decide +kernel) c
  simpa using this

set_option maxHeartbeats 1000000 in
theorem rTchar_any (c : UInt8) (w : World) :
    Calls Tryz.prog 85 #[.int .u8 (c.toNat : Int)] w fun e w' => e = .returned (.bool (decide (2 ≤ kindOf c.toNat))) ∧ w = w' := by
  have HL := rLetter_any c w
  have HD := rDigit_any c w
  have hx := rIn_any c ⟨#[33, 35, 36, 37, 38, 39, 42, 43, 45, 46, 94, 95, 96, 124, 126]⟩ w (by decide)
  have hx2 : Calls Tryz.prog 122 #[.int .u8 (c.toNat : Int), .string ⟨#[33, 35, 36, 37, 38, 39, 42, 43, 45, 46, 94, 95, 96, 124, 126]⟩] w fun e w' => e = .returned (.bool (tmarks.contains c)) ∧ w = w' := hx
  have HX := Lib.hid hx2
  have HN := Lib.hid (kind_tchar c)
  clear hx hx2
  generalize tmarks.contains c = tm at *
  cases hl : isLet c
  · rw [hl] at HL HN
    have HL2 := Lib.hid HL
    clear HL
    cases hd : isDig c
    · rw [hd] at HD HN
      have HD2 := Lib.hid HD
      clear HD hl hd
      go_enter Tryz.func85, Tryz.ntmps85
      go_wp2_with fail
      refine HL2.out.mono ?_
      rintro e w' ⟨rfl, rfl⟩
      go_wp2_with fail
      refine HD2.out.mono ?_
      rintro e w' ⟨rfl, rfl⟩
      go_wp2_with fail
      refine HX.out.mono ?_
      rintro e w' ⟨rfl, rfl⟩
      go_wp2_with fail
      go_ret
      exact ⟨retB2 (by rw [HN.out]; rfl), rfl⟩
    · rw [hd] at HD HN
      have HD2 := Lib.hid HD
      clear HD hl hd
      go_enter Tryz.func85, Tryz.ntmps85
      go_wp2_with fail
      refine HL2.out.mono ?_
      rintro e w' ⟨rfl, rfl⟩
      go_wp2_with fail
      refine HD2.out.mono ?_
      rintro e w' ⟨rfl, rfl⟩
      go_wp2_with fail
      go_ret
      exact ⟨retB2 (by rw [HN.out]; rfl), rfl⟩
  · rw [hl] at HL HN
    have HL2 := Lib.hid HL
    clear HL hl HD
    go_enter Tryz.func85, Tryz.ntmps85
    go_wp2_with fail
    refine HL2.out.mono ?_
    rintro e w' ⟨rfl, rfl⟩
    go_wp2_with fail
    go_ret
    exact ⟨retB2 (by rw [HN.out]; rfl), rfl⟩

set_option maxHeartbeats 1000000 in
theorem rToken_any (s : ByteArray) (w : World) (hs : s.size ≤ 1099511627776) :
    Calls Tryz.prog 41 #[.string s] w fun e w' => e = .returned (.bool (tokL (bs s))) ∧ w = w' := by
  have hV : tokL (bs s) = (!(bs s).isEmpty && allL 2 (bs s)) := rfl
  have HV := Lib.hid hV
  clear hV
  go_enter Tryz.func41, Tryz.ntmps41
  go_wp2_with fail
  go_loop [3] (fun v => ∃ i : Nat, i ≤ s.size ∧ v = .int .i64 i ∧ Hid (allL 2 (bs s) = allL 2 ((bs s).drop i))) (fun v => s.size - (RowKit.intOf v).toNat)
  case atStart => exact ⟨0, Nat.zero_le _, rfl, rfl⟩
  case round =>
    obtain ⟨i, hi, rfl, hd⟩ := hrel
    by_cases hlt : i < s.size
    · have D := Lib.hid (bs_drop s i hlt)
      have HC := rTchar_any s[i] w
      cases hk : decide (2 ≤ kindOf s[i].toNat)
      · rw [hk] at HC
        have fin : tokL (bs s) = false := by rw [HV.out, hd.out, D.out, allL_cons, hk]; simp
        have HF := Lib.hid fin
        have HC2 := Lib.hid HC
        clear fin HC hk
        go_wp2_with fail
        refine HC2.out.mono ?_
        rintro e w' ⟨rfl, rfl⟩
        go_wp2_with fail
        go_ret
        exact ⟨retB2 (by rw [HF.out]), rfl⟩
      · rw [hk] at HC
        have nx : allL 2 (bs s) = allL 2 ((bs s).drop (i + 1)) := by rw [hd.out, D.out, allL_cons, hk, Bool.true_and]
        have HX := Lib.hid nx
        have HC2 := Lib.hid HC
        clear nx HC hk
        go_wp2_with fail
        refine HC2.out.mono ?_
        rintro e w' ⟨rfl, rfl⟩
        go_wp2_with fail
        exact ⟨⟨i + 1, by omega, by go_num, HX⟩, by simp [RowKit.intOf]; omega⟩
    · have ha : allL 2 (bs s) = true := by rw [hd.out, List.drop_eq_nil_of_le (by rw [length_bs]; omega)]; rfl
      have fin : tokL (bs s) = !(bs s).isEmpty := by rw [HV.out, ha]; simp
      cases he : (bs s).isEmpty
      · have he2 : s.toList.isEmpty = false := by rw [toList_bs]; exact he
        have HF := Lib.hid (show tokL (bs s) = true by rw [fin, he]; rfl)
        clear fin ha he
        go_wp2_with fail
        go_ret
        exact ⟨retB2 (by rw [HF.out] <;> first | rfl | simp), rfl⟩
      · have he2 : s.toList.isEmpty = true := by rw [toList_bs]; exact he
        have HF := Lib.hid (show tokL (bs s) = false by rw [fin, he]; rfl)
        clear fin ha he
        go_wp2_with fail
        go_ret
        exact ⟨retB2 (by rw [HF.out] <;> first | rfl | simp), rfl⟩

theorem kind_char8 (c : UInt8) : decide (1 ≤ kindOf c.toNat) = (decide (c.toNat = 9) || (decide (32 ≤ c.toNat) && decide (c.toNat ≤ 126)) || decide (128 ≤ c.toNat)) := by
  have := u8_all (fun c => decide (1 ≤ kindOf c.toNat) == (decide (c.toNat = 9) || (decide (32 ≤ c.toNat) && decide (c.toNat ≤ 126)) || decide (128 ≤ c.toNat))) (by decide +kernel) c
  simpa using this

set_option maxHeartbeats 1000000 in
theorem rChar_any (c : UInt8) (w : World) :
    Calls Tryz.prog 166 #[.int .u8 (c.toNat : Int)] w fun r w' => r = .returned (.bool (decide (1 ≤ kindOf c.toNat))) ∧ w = w' := by
  have hlt := c.toNat_lt
  have HD := Lib.hid (kind_char8 c)
  generalize decide (1 ≤ kindOf c.toNat) = kb at *
  generalize c.toNat = n at *
  by_cases h9 : n = 9 <;> by_cases h0 : 32 ≤ n <;> by_cases h1 : n ≤ 126 <;> by_cases h2 : 128 ≤ n
  all_goals
    first
    | omega
    | ((first | (have e9 : ((n : Int) == 9) = true := (by rw [beq_iff_eq]; omega)) | (have e9 : ((n : Int) == 9) = false := (by rw [beq_eq_false_iff_ne]; omega)))
       have H9 := Lib.hid h9
       clear h9
       go_enter Tryz.func166, Tryz.ntmps166
       go_wp2_with fail
       go_ret
       have h9 := H9.out
       exact ⟨retB2 (by rw [HD.out, Bool.eq_iff_iff]; simp; omega), rfl⟩)

set_option maxHeartbeats 1000000 in
theorem rChars_any (s : ByteArray) (w : World) (hs : s.size ≤ 1099511627776) :
    Calls Tryz.prog 140 #[.string s] w fun r w' => r = .returned (.bool (allL 1 (bs s))) ∧ w = w' := by
  go_enter Tryz.func140, Tryz.ntmps140
  go_wp2_with fail
  go_loop [3] (fun v => ∃ i : Nat, i ≤ s.size ∧ v = .int .i64 i ∧ Hid (allL 1 (bs s) = allL 1 ((bs s).drop i))) (fun v => s.size - (RowKit.intOf v).toNat)
  case atStart => exact ⟨0, Nat.zero_le _, rfl, rfl⟩
  case round =>
    obtain ⟨i, hi, rfl, hd⟩ := hrel
    by_cases hlt : i < s.size
    · have D := Lib.hid (bs_drop s i hlt)
      have HC := rChar_any s[i] w
      cases hk : decide (1 ≤ kindOf s[i].toNat)
      · rw [hk] at HC
        have fin : allL 1 (bs s) = false := by rw [hd.out, D.out, allL_cons, hk]; rfl
        have HF := Lib.hid fin
        have HC2 := Lib.hid HC
        clear fin HC hk
        go_wp2_with fail
        refine HC2.out.mono ?_
        rintro e w' ⟨rfl, rfl⟩
        go_wp2_with fail
        go_ret
        exact ⟨by rw [HF.out]; rfl, rfl⟩
      · rw [hk] at HC
        have nx : allL 1 (bs s) = allL 1 ((bs s).drop (i + 1)) := by rw [hd.out, D.out, allL_cons, hk, Bool.true_and]
        have HX := Lib.hid nx
        have HC2 := Lib.hid HC
        clear nx HC hk
        go_wp2_with fail
        refine HC2.out.mono ?_
        rintro e w' ⟨rfl, rfl⟩
        go_wp2_with fail
        exact ⟨⟨i + 1, by omega, by go_num, HX⟩, by simp [RowKit.intOf]; omega⟩
    · have fin : allL 1 (bs s) = true := by rw [hd.out, List.drop_eq_nil_of_le (by rw [length_bs]; omega)]; rfl
      have HF := Lib.hid fin
      clear fin
      go_wp2_with fail
      go_ret
      exact ⟨by rw [HF.out]; rfl, rfl⟩
end Tk
end Go.Proofs.YtdlbmfgajgefdaaGreatDoor
namespace Go.Proofs.YtdlbmfgajgefdaaGreatDoor
open Go.RowKit
namespace Tk

theorem tr_consW (c : UInt8) (l : Bs) (hc : wh c = true) : trimL (c :: l) = trimL l := by
  rw [trimL_eq, trimL_eq]
  unfold tr
  rw [List.reverse_cons, dropWhile_append]
  have h1 : ([c] : Bs).dropWhile wh = [] := by rw [List.dropWhile_cons, hc, if_pos rfl]; rfl
  by_cases h : l.reverse.dropWhile wh = []
  · rw [if_pos h, h, h1]
  · rw [if_neg h, List.reverse_append]
    show (c :: (l.reverse.dropWhile wh).reverse).dropWhile wh = _
    rw [List.dropWhile_cons, hc, if_pos rfl]
theorem tr_snocW (c : UInt8) (l : Bs) (hc : wh c = true) : trimL (l ++ [c]) = trimL l := by
  rw [trimL_eq, trimL_eq]
  congr 1
  unfold tr
  rw [List.reverse_append]
  show ((c :: l.reverse).dropWhile wh).reverse = _
  rw [List.dropWhile_cons, hc, if_pos rfl]
theorem wh_of (c : UInt8) : wh c = (decide (c.toNat = 32) || decide (c.toNat = 9)) := by
  have := u8_all (fun c => wh c == (decide (c.toNat = 32) || decide (c.toNat = 9))) (by decide +kernel) c
  simpa using this

set_option maxHeartbeats 400000 in
theorem rWhite_any (c : UInt8) (w : World) :
    Calls Tryz.prog 149 #[.int .u8 (c.toNat : Int)] w fun e w' => e = .returned (.bool (wh c)) ∧ w = w' := by
  have HD := Lib.hid (wh_of c)
  generalize wh c = b at *
  generalize c.toNat = n at *
  by_cases h0 : n = 32
  · have e0 : ((n : Int) == 32) = true := by rw [beq_iff_eq]; omega
    have H0 := Lib.hid h0
    clear h0
    go_enter Tryz.func149, Tryz.ntmps149
    go_wp2_with fail
    go_ret
    exact ⟨retB2 (by rw [HD.out, H0.out]; simp), rfl⟩
  · have e0 : ((n : Int) == 32) = false := by rw [beq_eq_false_iff_ne]; omega
    have hd := HD.out
    rw [decide_eq_false h0, Bool.false_or] at hd
    have HD2 := Lib.hid hd
    by_cases h1 : n = 9
    · have e1 : ((n : Int) == 9) = true := by rw [beq_iff_eq]; omega
      have HD3 := Lib.hid (show b = true by rw [hd, decide_eq_true h1])
      clear h0 h1 hd HD HD2
      go_enter Tryz.func149, Tryz.ntmps149
      go_wp2_with fail
      go_ret
      exact ⟨retB2 (by rw [HD3.out] <;> first | rfl | simp), rfl⟩
    · have e1 : ((n : Int) == 9) = false := by rw [beq_eq_false_iff_ne]; omega
      have HD3 := Lib.hid (show b = false by rw [hd, decide_eq_false h1])
      clear h0 h1 hd HD HD2
      go_enter Tryz.func149, Tryz.ntmps149
      go_wp2_with fail
      go_ret
      exact ⟨retB2 (by rw [HD3.out] <;> first | rfl | simp), rfl⟩

set_option maxHeartbeats 4000000 in
set_option maxRecDepth 100000 in
theorem rTrim_any (s : ByteArray) (w : World) (hs : s.size ≤ 1099511627776) :
    Calls Tryz.prog 126 #[.string s] w fun e w' => e = .returned (.string (mkS (trimL (bs s)))) ∧ w = w' := by
  go_enter Tryz.func126, Tryz.ntmps126
  go_wp2_with fail
  go_loop [0] (fun vs => ∃ t : ByteArray, vs = .string t ∧ t.size ≤ s.size ∧ Hid (trimL (bs t) = trimL (bs s))) (fun vs => match vs with | .string t => t.size | _ => 0)
  case atStart => exact ⟨s, rfl, Nat.le_refl _, rfl⟩
  case round =>
    obtain ⟨t, rfl, htz, hT⟩ := hrel
    have second : ∀ (c1 : t.size = 0 ∨ ∃ h : 0 < t.size, wh t[0] = false), ∀ c, (bs t).head? = some c → wh c = false := by
      rintro (h | ⟨h, h'⟩) c hc
      · have : bs t = [] := List.eq_nil_of_length_eq_zero (by rw [length_bs]; exact h)
        rw [this] at hc; cases hc
      · rw [bs_head t h] at hc
        injection hc with hc
        rw [← hc]; exact h'
    have hcase : t.size = 0 ∨ (0 < t.size ∧ ((∃ h : 0 < t.size, wh t[0] = false) ∨ ∃ h : 0 < t.size, wh t[0] = true)) := by
      by_cases hz : t.size = 0
      · exact .inl hz
      · right
        have hp : 0 < t.size := by omega
        refine ⟨hp, ?_⟩
        cases h : wh t[0]
        · exact .inl ⟨hp, h⟩
        · exact .inr ⟨hp, h⟩
    have HSec := Lib.hid second
    clear second
    rcases hcase with hz | ⟨hp, ⟨hp', hw⟩ | ⟨hp', hw⟩⟩
    · have he := empty_of t hz
      have HHd := Lib.hid (HSec.out (.inl hz))
      clear hz
      go_wp2_with fail
      go_loop [0] (fun vs => ∃ u : ByteArray, vs = .string u ∧ u.size ≤ s.size ∧ Hid (trimL (bs u) = trimL (bs s)) ∧ Hid (∀ c, (bs u).head? = some c → wh c = false)) (fun vs => match vs with | .string t => t.size | _ => 0)
      case atStart => exact ⟨t, rfl, htz, hT, HHd⟩
      case round =>
        obtain ⟨u, rfl, huz, hU, hH⟩ := hrel
        by_cases hz : u.size = 0
        · have he2 := empty_of u hz
          have hnil : bs u = [] := List.eq_nil_of_length_eq_zero (by rw [length_bs]; exact hz)
          have HF := Lib.hid (show mkS (trimL (bs s)) = u by rw [← hU.out, hnil]; exact (show mkS [] = u by rw [← hnil, mkS_bs]))
          clear hz hnil
          go_wp2_with fail
          go_ret
          exact ⟨by rw [HF.out]; rfl, rfl⟩
        · have hup : 0 < u.size := by omega
          have he2 := not_empty_of u hup
          have hul : u.size - 1 < u.size := by omega
          have k1 : IntKind.i64.wrap ((u.size : Int) - 1) = ((u.size - 1 : Nat) : Int) := by rw [IntWalk.i64_in _ (by omega)]; omega
          have k2 : ((u.size : Int) - 1).toNat = u.size - 1 := by omega
          have hsp : bs u = (bs u).take (u.size - 1) ++ [u[u.size - 1]'hul] := by
            have h1 := take_snoc (bs u) (u.size - 1) (by rw [length_bs]; exact hul)
            rw [getD_bs u _ hul, show u.size - 1 + 1 = u.size by omega, List.take_of_length_le (by rw [length_bs]; exact Nat.le_refl _)] at h1
            exact h1
          have HC := rWhite_any (u[u.size - 1]'hul) w
          cases hl : wh (u[u.size - 1]'hul)
          · rw [hl] at HC
            have hneat : Neat (bs u) := ⟨hH.out, fun c hc => by
              rw [hsp, List.getLast?_append] at hc
              simp at hc
              rw [← hc]; exact hl⟩
            have HF := Lib.hid (show mkS (trimL (bs s)) = u by rw [← hU.out, neat_trim _ hneat, mkS_bs])
            have HC2 := Lib.hid HC
            clear HC hl hsp hneat hz
            go_wp2_with fail
            refine HC2.out.mono ?_
            rintro e w' ⟨rfl, rfl⟩
            go_wp2_with fail
            go_ret
            exact ⟨by rw [HF.out]; rfl, rfl⟩
          · rw [hl] at HC
            have hbu : bs (u.extract 0 (u.size - 1)) = (bs u).take (u.size - 1) := by rw [bs_extract]; simp
            have hzu : (u.extract 0 (u.size - 1)).size = u.size - 1 := by rw [← length_bs, hbu, List.length_take, length_bs]; omega
            have hU2 : Hid (trimL (bs (u.extract 0 (u.size - 1))) = trimL (bs s)) := by
              show _ = _
              rw [hbu, ← hU.out]
              conv => rhs; rw [hsp]
              rw [tr_snocW _ _ hl]
            have hH2 : Hid (∀ c, (bs (u.extract 0 (u.size - 1))).head? = some c → wh c = false) := by
              intro c hc
              refine hH.out c ?_
              rw [hbu] at hc
              rw [hsp]
              cases hq : (bs u).take (u.size - 1) with
              | nil => rw [hq] at hc; cases hc
              | cons a q => rw [hq] at hc; exact hc
            have HZU := Lib.hid hzu
            have HC2 := Lib.hid HC
            clear HC hl hsp hbu hzu hz
            go_wp2_with fail
            refine HC2.out.mono ?_
            rintro e w' ⟨rfl, rfl⟩
            go_wp2_with fail
            exact ⟨⟨u.extract 0 (u.size - 1), rfl, by rw [HZU.out]; omega, hU2, hH2⟩, by show (u.extract 0 (u.size - 1)).size < u.size; rw [HZU.out]; omega⟩
    · have he := not_empty_of t hp
      have hp2 : (0 : Int) < (t.size : Int) := by omega
      have HHd := Lib.hid (HSec.out (.inr ⟨hp', hw⟩))
      have HC0 := rWhite_any t[0] w
      rw [hw] at HC0
      have HC1 := Lib.hid HC0
      clear HC0 hw
      go_wp2_with fail
      refine HC1.out.mono ?_
      rintro e w' ⟨rfl, rfl⟩
      go_wp2_with fail
      go_loop [0] (fun vs => ∃ u : ByteArray, vs = .string u ∧ u.size ≤ s.size ∧ Hid (trimL (bs u) = trimL (bs s)) ∧ Hid (∀ c, (bs u).head? = some c → wh c = false)) (fun vs => match vs with | .string t => t.size | _ => 0)
      case atStart => exact ⟨t, rfl, htz, hT, HHd⟩
      case round =>
        obtain ⟨u, rfl, huz, hU, hH⟩ := hrel
        by_cases hz : u.size = 0
        · have he2 := empty_of u hz
          have hnil : bs u = [] := List.eq_nil_of_length_eq_zero (by rw [length_bs]; exact hz)
          have HF := Lib.hid (show mkS (trimL (bs s)) = u by rw [← hU.out, hnil]; exact (show mkS [] = u by rw [← hnil, mkS_bs]))
          clear hz hnil
          go_wp2_with fail
          go_ret
          exact ⟨by rw [HF.out]; rfl, rfl⟩
        · have hup : 0 < u.size := by omega
          have he2 := not_empty_of u hup
          have hul : u.size - 1 < u.size := by omega
          have k1 : IntKind.i64.wrap ((u.size : Int) - 1) = ((u.size - 1 : Nat) : Int) := by rw [IntWalk.i64_in _ (by omega)]; omega
          have k2 : ((u.size : Int) - 1).toNat = u.size - 1 := by omega
          have hsp : bs u = (bs u).take (u.size - 1) ++ [u[u.size - 1]'hul] := by
            have h1 := take_snoc (bs u) (u.size - 1) (by rw [length_bs]; exact hul)
            rw [getD_bs u _ hul, show u.size - 1 + 1 = u.size by omega, List.take_of_length_le (by rw [length_bs]; exact Nat.le_refl _)] at h1
            exact h1
          have HC := rWhite_any (u[u.size - 1]'hul) w
          cases hl : wh (u[u.size - 1]'hul)
          · rw [hl] at HC
            have hneat : Neat (bs u) := ⟨hH.out, fun c hc => by
              rw [hsp, List.getLast?_append] at hc
              simp at hc
              rw [← hc]; exact hl⟩
            have HF := Lib.hid (show mkS (trimL (bs s)) = u by rw [← hU.out, neat_trim _ hneat, mkS_bs])
            have HC2 := Lib.hid HC
            clear HC hl hsp hneat hz
            go_wp2_with fail
            refine HC2.out.mono ?_
            rintro e w' ⟨rfl, rfl⟩
            go_wp2_with fail
            go_ret
            exact ⟨by rw [HF.out]; rfl, rfl⟩
          · rw [hl] at HC
            have hbu : bs (u.extract 0 (u.size - 1)) = (bs u).take (u.size - 1) := by rw [bs_extract]; simp
            have hzu : (u.extract 0 (u.size - 1)).size = u.size - 1 := by rw [← length_bs, hbu, List.length_take, length_bs]; omega
            have hU2 : Hid (trimL (bs (u.extract 0 (u.size - 1))) = trimL (bs s)) := by
              show _ = _
              rw [hbu, ← hU.out]
              conv => rhs; rw [hsp]
              rw [tr_snocW _ _ hl]
            have hH2 : Hid (∀ c, (bs (u.extract 0 (u.size - 1))).head? = some c → wh c = false) := by
              intro c hc
              refine hH.out c ?_
              rw [hbu] at hc
              rw [hsp]
              cases hq : (bs u).take (u.size - 1) with
              | nil => rw [hq] at hc; cases hc
              | cons a q => rw [hq] at hc; exact hc
            have HZU := Lib.hid hzu
            have HC2 := Lib.hid HC
            clear HC hl hsp hbu hzu hz
            go_wp2_with fail
            refine HC2.out.mono ?_
            rintro e w' ⟨rfl, rfl⟩
            go_wp2_with fail
            exact ⟨⟨u.extract 0 (u.size - 1), rfl, by rw [HZU.out]; omega, hU2, hH2⟩, by show (u.extract 0 (u.size - 1)).size < u.size; rw [HZU.out]; omega⟩
    · have he := not_empty_of t hp
      have hp2 : (0 : Int) < (t.size : Int) := by omega
      have hp1 : (1 : Int) ≤ (t.size : Int) := by omega
      have HC0 := rWhite_any t[0] w
      rw [hw] at HC0
      have HC1 := Lib.hid HC0
      have hbt : bs (t.extract 1 t.size) = (bs t).drop 1 := by
        rw [bs_extract, List.take_of_length_le (by rw [List.length_drop, length_bs]; exact Nat.le_refl _)]
      have hzt : (t.extract 1 t.size).size = t.size - 1 := by rw [← length_bs, hbt, List.length_drop, length_bs]
      have hT2 : Hid (trimL (bs (t.extract 1 t.size)) = trimL (bs s)) := by
        show _ = _
        have h1 := bs_drop t 0 hp
        rw [List.drop_zero] at h1
        rw [hbt, ← hT.out]
        conv => rhs; rw [h1]
        rw [tr_consW _ _ hw]
      have HZT := Lib.hid hzt
      clear HC0 hw hbt hzt
      go_wp2_with fail
      refine HC1.out.mono ?_
      rintro e w' ⟨rfl, rfl⟩
      go_wp2_with fail
      exact ⟨⟨t.extract 1 t.size, rfl, by rw [HZT.out]; omega, hT2⟩, by show (t.extract 1 t.size).size < t.size; rw [HZT.out]; omega⟩
end Tk
end Go.Proofs.YtdlbmfgajgefdaaGreatDoor
