/- VaryWhite: a run of white space counts as one blank, and the values of one name are in order; a missing name is not the same as an empty one. -/
import Derived.Test.YthooghgiokgdhaaDoorQVaX
import Derived.Test.YthooghgiokgdhaaDoorQVaY
import Derived.Test.YthooghgiokgdhaaDoorQC
import Derived.Test.YthooghgiokgdhaaDoorQArgW
import Derived.Test.YthooghgiokgdhaaDoorQRefL
import Derived.Test.YthooghgiokgdhaaDoorQJoinF
import Derived.Deep.Cut
import Derived.BigQuiet
namespace Go.Proofs.YthooghgiokgdhaaDoor
open Go.RowKit
namespace Tk

theorem cell_inW {w : World} {p : Addr} {v : Value} (h : w.cell? p = some v) : p.block < w.heap.size := by
  refine Nat.lt_of_not_le fun hle => ?_
  unfold World.cell? at h
  rw [Array.getElem?_eq_none hle] at h
  simp at h
theorem cellW {w w' : World} {p : Addr} {v : Value} (h : w.cell? p = some v) (hb : Below w.heap.size w w') : w'.cell? p = some v := (hb.cell (cell_inW h)).trans h
theorem below_drewsW (w : World) (n : Nat) : Below w.heap.size w (w.drewN n) := ⟨rfl, rfl, rfl, Nat.le_refl _, fun _ _ => rfl⟩
theorem own_keepW {w w' : World} {B n s : Nat} {v : Value} {xs : List Value} {e : TypeId} (h : w.ownsRow B e s v n xs) (hb : Below w.heap.size w w') : w'.ownsRow B e s v n xs :=
  World.ownsRow.kept h (row := none) ⟨hb.os, hb.tape, hb.output, hb.size, fun k hk _ => hb.block k hk⟩ (by cases h : v.ownBlock <;> simp)
theorem below_grW {w x y : World} {B n s : Nat} {v : Value} {xs : List Value} {e : TypeId} (hb : Below w.heap.size w x) (hg : x.grownBy y v.ownBlock) (ho : x.ownsRow B e s v n xs) (hB : w.heap.size ≤ B) : Below w.heap.size w y :=
  ⟨hg.os.trans hb.os, hg.tape.trans hb.tape, hg.output.trans hb.output, Nat.le_trans hb.size hg.size, fun k hk => (hg.block k (Nat.lt_of_lt_of_le hk hb.size) (fun e => by have := (ho.lt k e.symm).1; omega)).trans (hb.block k hk)⟩
def mapW (n : Bs) (P : List Bs) : List (Bs × Bs) := P.map fun p => (n, p)
theorem mapW_next (n : Bs) (P : List Bs) (i : Nat) (h : i < P.length) : mapW n (P.take (i + 1)) = mapW n (P.take i) ++ [(n, P.getD i [])] := by
  unfold mapW
  rw [List.take_succ_eq_append_getElem h, List.map_append]
  simp [List.getD, h]
theorem sumF_mapW (n : Bs) : ∀ P : List Bs, (∀ p ∈ P, p.length ≤ 200) → n.length ≤ 40 → sumF (mapW n P) ≤ P.length * 300
  | [], _, _ => by simp [mapW, sumF]
  | p :: t, h, hn => by
    have ih := sumF_mapW n t (fun x hx => h x (by simp [hx])) hn
    have h1 := h p (by simp)
    unfold mapW at *
    rw [List.map_cons, sumF, List.length_cons, Nat.succ_mul]
    simp only
    omega
theorem glue0 (sep : Nat → Bs) (P : List Bs) (_h : P.length ≠ 0) : glue sep P 1 = P.getD 0 [] := by
  show glue sep P 0 ++ ((if 0 = 0 then [] else sep 0) ++ P.getD 0 []) = _
  simp [glue]
theorem glueS (sep : Nat → Bs) (P : List Bs) (i : Nat) (h : i ≠ 0) : glue sep P (i + 1) = glue sep P i ++ sep i ++ P.getD i [] := by
  rw [glue, if_neg h, List.append_assoc]

set_option maxRecDepth 100000 in
theorem wpList_joinW {ops : Array Oper} {rest : List Oper} {w : World} {o : Oper} {a : Act} {Q : Exit → Act → World → Prop} (hgd : o.guard = none) (s x : Operand)
    (ho : o.op = .call { callee := .builtin .append, args := #[s, x], argTypes := #[29, 29] })
    (base : Nat) (v v2 : Value) (P R : List (Bs × Bs)) (hs : a.eval s = v) (hx : a.eval x = v2) (h1 : w.ownsRow base 27 2 v P.length (fcells P)) (h2 : IsFlds w v2 R) (hnl : ∀ n c, v2 = .slice none n c → c = 0)
    (hB : base ≤ w.heap.size) (hP : P.length ≤ 1048576) (hR : R.length ≤ 1048576)
    (h : ∀ v' w', w'.ownsRow base 27 2 v' (P ++ R).length (fcells (P ++ R)) → w.grownBy w' v.ownBlock → wpList Tryd.prog ops Q rest (a.put o.dst v') w') : wpList Tryd.prog ops Q (o :: rest) a w :=
  wpList_plain hgd fun K hK => joinF_run w o a K Q s x ho base v v2 P R hs hx h1 h2 hnl hB hP hR fun v' w' a b => hK _ _ (h v' w' a b)

/-- what the law calls -/
structure VwC (w : World) (v u : Value) (P : List Bs) (D : List Int) (nm : Bs) (qL qn : Bool) : Prop where
  lv : ∀ W : World, Calls Tryd.prog 7 #[] W fun e w' => e = .returned (.bool true) ∧ Below W.heap.size W w'
  tl : ∀ W : World, Below w.heap.size w W → Calls Tryd.prog 15 #[v, .int .i64 10, .int .i64 200] W fun e w' => e = .returned (.bool qL) ∧ w' = W
  tn : nm.length ≤ 40 → ∀ W : World, Calls Tryd.prog 21 #[.string (mkS nm)] W fun e w' => e = .returned (.bool qn) ∧ w' = W
  tk : ∀ (x : Bs) (W : World), x.length ≤ 200 → Calls Tryd.prog 21 #[.string (mkS x)] W fun e w' => e = .returned (.bool (tokL x)) ∧ w' = W
  tm : ∀ (N : Nat) (W : World), N ≤ 1000 → Calls Tryd.prog 22 #[.string ⟨#[32, 9]⟩, .int .i64 N] W fun e w' => e = .returned (.string (mkS (btS N))) ∧ w' = W
  on : ∀ (n x : ByteArray) (W : World), Calls Tryd.prog 9 #[.string n, .string x] W fun e w' => e = .returned (.agg #[.string n, .string x]) ∧ Below W.heap.size W w'
  lo : nm.length ≤ 40 → ∀ W : World, Calls Tryd.prog 19 #[.string (mkS nm)] W fun e w' => e = .returned (.string (mkS (lowL nm))) ∧ Below W.heap.size W w'
  vl : nm.length ≤ 40 → ∀ (v : Value) (l : List (Bs × Bs)) (W : World), Below w.heap.size w W → IsFlds W v l → sumF l ≤ 1000000 → l.length ≤ 100 → Calls Tryd.prog 10 #[v, .string (mkS nm)] W fun e w' => e = .returned (.string (mkS (valV (allF l nm)))) ∧ Below W.heap.size W w'
  mt : nm.length ≤ 40 → ∀ (v va vb : Value) (la lb : List (Bs × Bs)) (W : World), Below w.heap.size w W → IsStrs W v [nm] → IsFlds W va la → IsFlds W vb lb → sumF la ≤ 1000000 → sumF lb ≤ 1000000 → la.length ≤ 100 → lb.length ≤ 100 → Calls Tryd.prog 11 #[v, va, vb] W fun e w' => e = .returned (.bool (mchV la lb [nm])) ∧ Below W.heap.size W w'
  st : IsStrs w v P
  su : IsU8s w u D
  dr : ∀ x ∈ D, 0 ≤ x ∧ x < 256
  ln : qL = true → P.length ≤ 10 ∧ ∀ x ∈ P, x.length ≤ 200

set_option maxHeartbeats 4000000 in
set_option maxRecDepth 100000 in
theorem vw_long (v u : Value) (P : List Bs) (D : List Int) (nm : Bs) (w : World) (qL qn : Bool) (h1 : (10 : Int) < (P.length : Int)) (a ad : Option Addr) (c cd : Nat) (ev : v = .slice a P.length c) (eu : u = .slice ad D.length cd) (H : Hid (VwC w v u P D nm qL qn)) :
    Calls Tryd.prog 6 #[v, u, .string (mkS nm)] w fun e w' => e = .returned (.bool true) ∧ Below w.heap.size w w' := by
  subst ev eu
  have hz := size_mkS nm
  go_enter Tryd.func6, Tryd.ntmps6
  go_wp2_with fail
  refine (H.out.lv _).mono ?_
  rintro e w1 ⟨rfl, hb1⟩
  have B1 := Lib.hid hb1
  clear hb1
  go_wp2_with fail
  go_ret
  exact ⟨rfl, B1.out⟩

set_option maxHeartbeats 4000000 in
set_option maxRecDepth 100000 in
theorem vw_short (v u : Value) (P : List Bs) (D : List Int) (nm : Bs) (w : World) (qL qn : Bool) (h1 : ¬ ((10 : Int) < (P.length : Int))) (h2 : (D.length : Int) < (P.length : Int)) (a ad : Option Addr) (c cd : Nat) (ev : v = .slice a P.length c) (eu : u = .slice ad D.length cd) (H : Hid (VwC w v u P D nm qL qn)) :
    Calls Tryd.prog 6 #[v, u, .string (mkS nm)] w fun e w' => e = .returned (.bool true) ∧ Below w.heap.size w w' := by
  subst ev eu
  have hz := size_mkS nm
  go_enter Tryd.func6, Tryd.ntmps6
  go_wp2_with fail
  refine (H.out.lv _).mono ?_
  rintro e w1 ⟨rfl, hb1⟩
  have B1 := Lib.hid hb1
  clear hb1
  go_wp2_with fail
  go_ret
  exact ⟨rfl, B1.out⟩

set_option maxHeartbeats 4000000 in
set_option maxRecDepth 100000 in
theorem vw_heavy (v u : Value) (P : List Bs) (D : List Int) (nm : Bs) (w : World) (qn : Bool) (h1 : ¬ ((10 : Int) < (P.length : Int))) (h2 : ¬ ((D.length : Int) < (P.length : Int))) (a ad : Option Addr) (c cd : Nat) (ev : v = .slice a P.length c) (eu : u = .slice ad D.length cd) (H : Hid (VwC w v u P D nm false qn)) :
    Calls Tryd.prog 6 #[v, u, .string (mkS nm)] w fun e w' => e = .returned (.bool true) ∧ Below w.heap.size w w' := by
  subst ev eu
  have hz := size_mkS nm
  go_enter Tryd.func6, Tryd.ntmps6
  go_wp2_with fail
  refine (H.out.lv _).mono ?_
  rintro e w1 ⟨rfl, hb1⟩
  have B1 := Lib.hid hb1
  clear hb1
  go_wp2_with fail
  refine (H.out.tl _ B1.out).mono ?_
  rintro e w2 ⟨rfl, rfl⟩
  go_wp2_with fail
  go_ret
  exact ⟨rfl, B1.out⟩

set_option maxHeartbeats 4000000 in
set_option maxRecDepth 100000 in
theorem vw_name (v u : Value) (P : List Bs) (D : List Int) (nm : Bs) (w : World) (qn : Bool) (h1 : ¬ ((10 : Int) < (P.length : Int))) (h2 : ¬ ((D.length : Int) < (P.length : Int))) (h3 : (40 : Int) < ((mkS nm).size : Int)) (a ad : Option Addr) (c cd : Nat) (ev : v = .slice a P.length c) (eu : u = .slice ad D.length cd) (H : Hid (VwC w v u P D nm true qn)) :
    Calls Tryd.prog 6 #[v, u, .string (mkS nm)] w fun e w' => e = .returned (.bool true) ∧ Below w.heap.size w w' := by
  subst ev eu
  have hz := size_mkS nm
  go_enter Tryd.func6, Tryd.ntmps6
  go_wp2_with fail
  refine (H.out.lv _).mono ?_
  rintro e w1 ⟨rfl, hb1⟩
  have B1 := Lib.hid hb1
  clear hb1
  clear hz
  go_wp2_with fail
  refine (H.out.tl _ B1.out).mono ?_
  rintro e w2 ⟨rfl, rfl⟩
  go_wp2_with fail
  go_ret
  exact ⟨rfl, B1.out⟩

set_option maxHeartbeats 4000000 in
set_option maxRecDepth 100000 in
theorem vw_tok (v u : Value) (P : List Bs) (D : List Int) (nm : Bs) (w : World) (h1 : ¬ ((10 : Int) < (P.length : Int))) (h2 : ¬ ((D.length : Int) < (P.length : Int))) (h3 : ¬ ((40 : Int) < ((mkS nm).size : Int))) (a ad : Option Addr) (c cd : Nat) (ev : v = .slice a P.length c) (eu : u = .slice ad D.length cd) (H : Hid (VwC w v u P D nm true false)) :
    Calls Tryd.prog 6 #[v, u, .string (mkS nm)] w fun e w' => e = .returned (.bool true) ∧ Below w.heap.size w w' := by
  subst ev eu
  have hz := size_mkS nm
  go_enter Tryd.func6, Tryd.ntmps6
  go_wp2_with fail
  refine (H.out.lv _).mono ?_
  rintro e w1 ⟨rfl, hb1⟩
  have B1 := Lib.hid hb1
  clear hb1
  have hn40 : nm.length ≤ 40 := by omega
  clear hz
  go_wp2_with fail
  refine (H.out.tl _ B1.out).mono ?_
  rintro e w2 ⟨rfl, rfl⟩
  go_wp2_with fail
  refine (H.out.tn hn40 _).mono ?_
  rintro e w2 ⟨rfl, rfl⟩
  go_wp2_with fail
  go_ret
  exact ⟨rfl, B1.out⟩

set_option maxHeartbeats 4000000 in
set_option maxRecDepth 100000 in
theorem vw_main (v u : Value) (P : List Bs) (D : List Int) (nm : Bs) (w : World) (h1 : ¬ ((10 : Int) < (P.length : Int))) (h2 : ¬ ((D.length : Int) < (P.length : Int))) (h3 : ¬ ((40 : Int) < ((mkS nm).size : Int))) (a ad : Option Addr) (c cd : Nat) (ev : v = .slice a P.length c) (eu : u = .slice ad D.length cd) (H : Hid (VwC w v u P D nm true true)) :
    Calls Tryd.prog 6 #[v, u, .string (mkS nm)] w fun e w' => e = .returned (.bool true) ∧ Below w.heap.size w w' := by
  subst ev eu
  have hn40 : nm.length ≤ 40 := by rw [size_mkS] at h3; omega
  have hD : P.length ≤ D.length := by omega
  have d1 : decide ((10 : Int) < (P.length : Int)) = false := decide_eq_false h1
  have d2 : decide (D.length < P.length) = false := decide_eq_false (by omega)
  have d3 : decide ((40 : Int) < ((mkS nm).size : Int)) = false := decide_eq_false h3
  clear h1 h2 h3
  go_enter Tryd.func6, Tryd.ntmps6
  go_wp2_with fail
  refine (H.out.lv _).mono ?_
  rintro e w1 ⟨rfl, hb1⟩
  have B1 := Lib.hid hb1
  clear hb1
  go_wp2_with fail
  refine (H.out.tl _ B1.out).mono ?_
  rintro e w2 ⟨rfl, rfl⟩
  go_wp2_with fail
  refine (H.out.tn hn40 _).mono ?_
  rintro e w2 ⟨rfl, rfl⟩
  obtain ⟨hln, hlx⟩ := H.out.ln rfl
  have HX := Lib.hid hlx
  have HD := Lib.hid hD
  have HN40 := Lib.hid hn40
  have HG1 := Lib.hid (fun (i : Nat) h => glue_len sp1 P 200 (fun _ => by unfold sp1; decide) hlx i h)
  have HG2 := Lib.hid (fun (i : Nat) h => glue_len (sepW D) P 200 (sepW_len D) hlx i h)
  have HG3 := Lib.hid (fun (i : Nat) h => glue_len spC P 200 (fun _ => by unfold spC; decide) hlx i h)
  clear hlx hD hn40
  go_wp2_with fail
  clear d1 d2 d3 hln
  have HLn := Lib.hid (H.out.ln rfl).1
  go_loopw [6, 7, 8, 9, 10, 11] (fun _ v7 v8 v9 v10 v11 wr => ∃ i : Nat, i ≤ P.length ∧ v11 = .int .i64 i ∧ v7 = .string (mkS (glue sp1 P i)) ∧ v8 = .string (mkS (glue (sepW D) P i)) ∧ v10 = .string (mkS (glue spC P i)) ∧ Hid (wr.ownsRow w.heap.size 27 2 v9 (mapW nm (P.take i)).length (fcells (mapW nm (P.take i)))) ∧ Hid (∀ p ∈ P.take i, tokL p = true) ∧ Hid (Below w.heap.size w wr)) (fun _ _ _ _ _ v11 _ => P.length - (RowKit.intOf v11).toNat)
  case atStart => exact ⟨0, Nat.zero_le _, rfl, rfl, rfl, rfl, World.ownsRow_nil _ _ _ _, (by show ∀ p ∈ P.take 0, _; simp), B1.out⟩
  case round =>
    obtain ⟨i, hi, rfl, rfl, rfl, rfl, HO, HTk, HB⟩ := hrel
    rename World => wr
    by_cases hlt : i < P.length
    · obtain ⟨a', c', e', hcs⟩ := H.out.st
      injection e' with e1 _ e2
      subst e1 e2
      obtain ⟨b, o, rfl, hc⟩ := hcs i (P.getD i []) (by simp [List.getD, hlt])
      have hc0 := cellW hc HB.out
      obtain ⟨a', c', e', hcd⟩ := H.out.su
      injection e' with e1 _ e2
      subst e1 e2
      obtain ⟨bd, od, rfl, hd⟩ := hcd i (by have := HD.out; omega)
      have hd0 := cellW hd HB.out
      have hdr := H.out.dr (D.getD i 0) (by have := HD.out; simp [List.getD, show i < D.length by omega])
      have hxl := HX.out (P.getD i []) (by simp [List.getD, hlt])
      have hmn := mapW_next nm P i hlt
      have HMN := Lib.hid hmn
      have hg1 := HG1.out i hi
      have hg2 := HG2.out i hi
      have hg3 := HG3.out i hi
      have HT0 := Lib.hid (fun W => H.out.tk (P.getD i []) W hxl)
      have hml : (mapW nm (P.take i)).length = i := by unfold mapW; rw [List.length_map, List.length_take]; omega
      have HML := Lib.hid hml
      clear hml
      have HT1 : Hid (tokL (P.getD i []) = true → ∀ p ∈ P.take (i + 1), tokL p = true) := fun ht p hp => by
        rw [List.take_succ_eq_append_getElem hlt, List.mem_append, List.mem_singleton] at hp
        rcases hp with hp | rfl
        · exact HTk.out p hp
        · simpa [List.getD, hlt] using ht
      have hi10 : i ≤ 10 := by have := HLn.out; omega
      have HE : Hid (∀ sep : Nat → Bs, glue sep P (i + 1) = if i = 0 then P.getD i [] else glue sep P i ++ sep i ++ P.getD i []) := fun sep => by
        by_cases h0 : i = 0
        · subst h0; rw [if_pos rfl]; exact glue0 sep P (by omega)
        · rw [if_neg h0]; exact glueS sep P i h0
      have HLt := Lib.hid hlt
      have hsp : sepW D i = btS (1 + ((D.getD i 0) % 4).toNat) := rfl
      have HSp := Lib.hid hsp
      have g0 : (0 : Int) ≤ (i : Int) := by omega
      have g1 : (i : Int) < (P.length : Int) := by omega
      have g2 : (i : Int) < (D.length : Int) := by have := HD.out; omega
      clear hcs hc hcd hd hmn hsp hlt
      generalize P.getD i [] = x at *
      generalize D.getD i 0 = d at *
      generalize hn1 : glue sp1 P i = t1 at *
      generalize hn2 : glue (sepW D) P i = t2 at *
      generalize hn3 : glue spC P i = t3 at *
      have HN1 := Lib.hid hn1
      have HN2 := Lib.hid hn2
      have HN3 := Lib.hid hn3
      clear hn1 hn2 hn3
      cases htk : tokL x
      · rw [htk] at HT0
        clear htk
        go_wp2_with fail
        refine (HT0.out _).mono ?_
        rintro e w3 ⟨rfl, rfl⟩
        go_wp2_with fail
        go_ret
        exact ⟨rfl, HB.out⟩
      · rw [htk] at HT0
        have HTn := Lib.hid (HT1.out htk)
        clear htk HT1
        obtain ⟨dn, rfl⟩ : ∃ dn : Nat, d = (dn : Int) := ⟨d.toNat, by omega⟩
        obtain ⟨m, hm⟩ : ∃ m, m = dn % 4 := ⟨_, rfl⟩
        have hm4 : Int.tmod (dn : Int) 4 = (m : Int) := by rw [hm, show (4 : Int) = ((4 : Nat) : Int) from rfl, ← Int.ofNat_tmod]
        have hmL : m < 4 := by omega
        have hsp2 : sepW D i = btS (1 + m) := by rw [HSp.out, show (((dn : Int)) % 4).toNat = m by omega]
        have HSp2 := Lib.hid hsp2
        have HTm : Hid (∀ W : World, Calls Tryd.prog 22 #[.string ⟨#[32, 9]⟩, .int .i64 (1 + (m : Int))] W fun e w' => e = .returned (.string (mkS (btS (1 + m)))) ∧ w' = W) := fun W => H.out.tm (1 + m) W (by omega)
        have z1 := size_mkS t1
        have z2 := size_mkS t2
        have z3 := size_mkS t3
        have zx := size_mkS x
        have zb : (mkS (btS (1 + m))).size ≤ 8 := by rw [size_mkS, bt_len2]; omega
        have l1 : t1.length ≤ 3000 := by have := HLn.out; omega
        have l2 : t2.length ≤ 3000 := by have := HLn.out; omega
        have l3 : t3.length ≤ 3000 := by have := HLn.out; omega
        have HL := Lib.hid (And.intro l1 (And.intro l2 l3))
        clear hsp2 HSp hdr hg1 hg2 hg3 hm HX
        have HOn := Lib.hid (fun n x W => H.out.on n x W)
        by_cases h0 : i = 0
        · as_aux_lemma =>
            have HE1 : Hid (t1 ++ x = x) := by show t1 ++ x = x; rw [← HN1.out, h0]; rfl
            have HE2 : Hid (t2 ++ x = x) := by show t2 ++ x = x; rw [← HN2.out, h0]; rfl
            have HE3 : Hid (t3 ++ x = x) := by show t3 ++ x = x; rw [← HN3.out, h0]; rfl
            have hi0 : ¬ (0 : Int) < (i : Int) := by omega
            have HI0 := Lib.hid h0
            clear h0
            go_wp2_with fail
            refine (HT0.out _).mono ?_
            rintro e w3 ⟨rfl, rfl⟩
            go_wp2_with fail
            go_quiet (fail)
            go_wp2_with fail
            refine (HOn.out _ _ _).mono ?_
            rintro e w6 ⟨rfl, hb6⟩
            have hbd : Below w3.heap.size w3 (w3.drewN nq) := below_drewsW _ _
            have hB6 := HB.out.trans ((hbd.trans hb6).mono HB.out.size)
            have hb7 := below_allocV w6 (.cells #[.string (mkS nm), .string (mkS x)] 27)
            have hO7 := own_keepW HO.out ((hbd.trans hb6).trans (hb7.mono (hbd.trans hb6).size))
            have hF7 := isFlds_litV w6 nm x
            have HB7 := Lib.hid (hB6.trans (hb7.mono hB6.size))
            have HO7 := Lib.hid hO7
            have HF7 := Lib.hid hF7
            clear hbd hB6 hb6 hb7 hO7 hF7
            go_wp2_with (at_builtin; refine wpList_joinW rfl _ _ rfl w.heap.size _ _ (mapW nm (P.take i)) [(nm, x)] rfl rfl HO7.out HF7.out (fun n c h => by injection h with h1; cases h1) HB7.out.size (by rw [HML.out]; have := HLn.out; have := HLt.out; omega) (by simp) ?_)
            intro v8 w8 ho8 hg8
            have HB8 := Lib.hid (below_grW HB7.out hg8 HO7.out (Nat.le_refl _))
            have HO8 : Hid (w8.ownsRow w.heap.size 27 2 v8 (mapW nm (P.take (i + 1))).length (fcells (mapW nm (P.take (i + 1))))) := by
              show World.ownsRow _ _ _ _ _ _ _
              rw [HMN.out, List.length_append]; exact ho8
            clear ho8 hg8
            go_wp2_with fail
            refine ⟨⟨i + 1, HLt.out, by go_num, ?_, ?_, ?_, HO8, HTn, HB8⟩, by simp [RowKit.intOf]; have := HLt.out; omega⟩
            · rw [HE.out, if_pos HI0.out, mkS_append, HE1.out]
            · rw [HE.out, if_pos HI0.out, mkS_append, HE2.out]
            · rw [HE.out, if_pos HI0.out, mkS_append, HE3.out]
        · as_aux_lemma =>
            have hi0 : (0 : Int) < (i : Int) := by omega
            have HI0 := Lib.hid h0
            clear h0
            go_wp2_with fail
            refine (HT0.out _).mono ?_
            rintro e w3 ⟨rfl, rfl⟩
            go_wp2_with fail
            refine (HTm.out _).mono ?_
            rintro e w4 ⟨rfl, rfl⟩
            go_wp2_with fail
            go_quiet (fail)
            go_wp2_with fail
            refine (HOn.out _ _ _).mono ?_
            rintro e w6 ⟨rfl, hb6⟩
            have hbd : Below w4.heap.size w4 (w4.drewN nq) := below_drewsW _ _
            have hB6 := HB.out.trans ((hbd.trans hb6).mono HB.out.size)
            have hb7 := below_allocV w6 (.cells #[.string (mkS nm), .string (mkS x)] 27)
            have hO7 := own_keepW HO.out ((hbd.trans hb6).trans (hb7.mono (hbd.trans hb6).size))
            have hF7 := isFlds_litV w6 nm x
            have HB7 := Lib.hid (hB6.trans (hb7.mono hB6.size))
            have HO7 := Lib.hid hO7
            have HF7 := Lib.hid hF7
            clear hbd hB6 hb6 hb7 hO7 hF7
            go_wp2_with (at_builtin; refine wpList_joinW rfl _ _ rfl w.heap.size _ _ (mapW nm (P.take i)) [(nm, x)] rfl rfl HO7.out HF7.out (fun n c h => by injection h with h1; cases h1) HB7.out.size (by rw [HML.out]; have := HLn.out; have := HLt.out; omega) (by simp) ?_)
            intro v8 w8 ho8 hg8
            have HB8 := Lib.hid (below_grW HB7.out hg8 HO7.out (Nat.le_refl _))
            have HO8 : Hid (w8.ownsRow w.heap.size 27 2 v8 (mapW nm (P.take (i + 1))).length (fcells (mapW nm (P.take (i + 1))))) := by
              show World.ownsRow _ _ _ _ _ _ _
              rw [HMN.out, List.length_append]; exact ho8
            clear ho8 hg8
            go_wp2_with fail
            refine ⟨⟨i + 1, HLt.out, by go_num, ?_, ?_, ?_, HO8, HTn, HB8⟩, by simp [RowKit.intOf]; have := HLt.out; omega⟩
            · rw [HE.out, if_neg HI0.out, HN1.out, show (⟨#[32]⟩ : ByteArray) = mkS [32] from rfl, mkS_append, mkS_append]; rfl
            · rw [HE.out, if_neg HI0.out, HN2.out, HSp2.out, mkS_append, mkS_append]
            · rw [HE.out, if_neg HI0.out, HN3.out, show (⟨#[44, 32]⟩ : ByteArray) = mkS [44, 32] from rfl, mkS_append, mkS_append]; rfl
    · obtain rfl : i = P.length := by omega
      have htk : P.take P.length = P := List.take_length
      rw [htk] at HO HTk
      have hPt : ∀ p ∈ P, p ≠ [] ∧ ∀ c ∈ p, whV c = false := fun p hp => tok_plain p (HTk.out p hp)
      obtain ⟨f1, f2, f3⟩ := white_facts P D nm hPt
      obtain ⟨k1, k2, k3⟩ := white_none nm
      have hg1 := HG1.out _ (Nat.le_refl _)
      have hg2 := HG2.out _ (Nat.le_refl _)
      have hg3 := HG3.out _ (Nat.le_refl _)
      have hsm := sumF_mapW nm P (fun p hp => (H.out.ln rfl).2 p hp) HN40.out
      have hPl : Hid (P.length ≤ 10) := HLn
      have hml : (mapW nm P).length = P.length := by unfold mapW; simp
      have hp0 : P.length = 0 → glue sp1 P P.length = [] := fun h => by rw [h]; rfl
      have hF9 := isFlds_own HO.out
      have HF9 := Lib.hid hF9
      have hl1 : (glue sp1 P P.length).length ≤ 5000 := by have := HLn.out; omega
      have hl2 : (glue (sepW D) P P.length).length ≤ 5000 := by have := HLn.out; omega
      have hl3 : (glue spC P P.length).length ≤ 5000 := by have := HLn.out; omega
      have hsm2 : sumF (mapW nm P) ≤ 1000000 := by have := HLn.out; omega
      have hml2 : (mapW nm P).length ≤ 100 := by have := HLn.out; omega
      have hnm := HN40.out
      have hll : (lowL nm).length = nm.length := by simp [lowL]
      have hs1 : sumF [(nm, glue sp1 P P.length)] ≤ 1000000 := by simp only [sumF]; omega
      have hs2 : sumF [(lowL nm, glue (sepW D) P P.length)] ≤ 1000000 := by simp only [sumF]; omega
      have hs3 : sumF [(nm, glue spC P P.length)] ≤ 1000000 := by simp only [sumF]; omega
      have hmw : (P.map fun p => (nm, p)) = mapW nm P := rfl
      rw [hmw] at f3
      have HOn := Lib.hid (fun n x W => H.out.on n x W)
      have HLw := Lib.hid (fun W => H.out.lo hnm W)
      have HMa : Hid (∀ (v va vb : Value) (W : World), Below w.heap.size w W → IsStrs W v [nm] → IsFlds W va [(nm, glue sp1 P P.length)] → IsFlds W vb [(lowL nm, glue (sepW D) P P.length)] → Calls Tryd.prog 11 #[v, va, vb] W fun e w' => e = .returned (.bool true) ∧ Below W.heap.size W w') := fun v va vb W hb h1 h2 h3 => by
        have h := H.out.mt hnm v va vb _ _ W hb h1 h2 h3 hs1 hs2 (by simp) (by simp)
        rw [f1] at h; exact h
      have HVa : Hid (∀ (v : Value) (W : World), Below w.heap.size w W → IsFlds W v [(nm, glue sp1 P P.length)] → Calls Tryd.prog 10 #[v, .string (mkS nm)] W fun e w' => e = .returned (.string (mkS (43 :: glue sp1 P P.length))) ∧ Below W.heap.size W w') := fun v W hb h1 => by
        have h := H.out.vl hnm v _ W hb h1 hs1 (by simp)
        rw [f2] at h; exact h
      have HVl : Hid (P ≠ [] → ∀ (v : Value) (W : World), Below w.heap.size w W → IsFlds W v (mapW nm P) → Calls Tryd.prog 10 #[v, .string (mkS nm)] W fun e w' => e = .returned (.string (mkS (43 :: glue spC P P.length))) ∧ Below W.heap.size W w') := fun hne v W hb h1 => by
        have h := H.out.vl hnm v _ W hb h1 hsm2 hml2
        rw [(f3 hne).1] at h; exact h
      have HMl : Hid (P ≠ [] → ∀ (v va vb : Value) (W : World), Below w.heap.size w W → IsStrs W v [nm] → IsFlds W va (mapW nm P) → IsFlds W vb [(nm, glue spC P P.length)] → Calls Tryd.prog 11 #[v, va, vb] W fun e w' => e = .returned (.bool true) ∧ Below W.heap.size W w') := fun hne v va vb W hb h1 h2 h3 => by
        have h := H.out.mt hnm v va vb _ _ W hb h1 h2 h3 hsm2 hs3 hml2 (by simp)
        rw [(f3 hne).2] at h; exact h
      have HVn : Hid (∀ (v : Value) (W : World), Below w.heap.size w W → IsFlds W v [] → Calls Tryd.prog 10 #[v, .string (mkS nm)] W fun e w' => e = .returned (.string ⟨#[45]⟩) ∧ Below W.heap.size W w') := fun v W hb h1 => by
        have h := H.out.vl hnm v _ W hb h1 (by simp [sumF]) (by simp)
        rw [k1] at h; exact h
      have HVp : Hid (∀ (v : Value) (W : World), Below w.heap.size w W → IsFlds W v [(nm, [])] → Calls Tryd.prog 10 #[v, .string (mkS nm)] W fun e w' => e = .returned (.string ⟨#[43]⟩) ∧ Below W.heap.size W w') := fun v W hb h1 => by
        have h := H.out.vl hnm v _ W hb h1 (by simp only [sumF, List.length_nil]; omega) (by simp)
        rw [k2] at h; exact h
      have HMn : Hid (∀ (v va vb : Value) (W : World), Below w.heap.size w W → IsStrs W v [nm] → IsFlds W va [] → IsFlds W vb [(nm, [])] → Calls Tryd.prog 11 #[v, va, vb] W fun e w' => e = .returned (.bool false) ∧ Below W.heap.size W w') := fun v va vb W hb h1 h2 h3 => by
        have h := H.out.mt hnm v va vb _ _ W hb h1 h2 h3 (by simp [sumF]) (by simp only [sumF, List.length_nil]; omega) (by simp) (by simp)
        rw [k3] at h; exact h
      obtain ⟨a9, c9, e9⟩ : ∃ a c, u9 = .slice a (mapW nm P).length c := by obtain ⟨a, c, h, -⟩ := hF9; exact ⟨a, c, h⟩
      rw [hml] at e9
      subst e9
      have hcat1 : (⟨#[43]⟩ : ByteArray) ++ mkS (glue sp1 P P.length) = mkS (43 :: glue sp1 P P.length) := by rw [show (⟨#[43]⟩ : ByteArray) = mkS [43] from rfl, mkS_append]; rfl
      have hcat3 : (⟨#[43]⟩ : ByteArray) ++ mkS (glue spC P P.length) = mkS (43 :: glue spC P P.length) := by rw [show (⟨#[43]⟩ : ByteArray) = mkS [43] from rfl, mkS_append]; rfl
      clear f1 f2 f3 k1 k2 k3 hg1 hg2 hg3 hsm hsm2 hml2 hnm hll hs1 hs2 hs3 hmw hF9 htk HTk hPl hPt hml HX HG1 HG2 HG3 HO
      generalize glue sp1 P P.length = t1 at *
      generalize glue (sepW D) P P.length = t2 at *
      generalize glue spC P P.length = t3 at *
      have z1 := size_mkS t1
      have z3 := size_mkS t3
      go_wp2_with fail
      refine (HOn.out _ _ _).mono ?_
      rintro e w6 ⟨rfl, hb6⟩
      have HB6 := Lib.hid (HB.out.trans (hb6.mono HB.out.size))
      have hb7 := below_allocV w6 (.cells #[.string (mkS nm), .string (mkS t1)] 27)
      have HFa := Lib.hid (isFlds_litV w6 nm t1)
      have HF7 := Lib.hid (isFlds_below HF9.out (hb6.trans (hb7.mono hb6.size)))
      have HB7 := Lib.hid (HB6.out.trans (hb7.mono HB6.out.size))
      clear hb6 hb7
      go_wp2_with fail
      generalize hW7 : w6.alloc (.cells #[.string (mkS nm), .string (mkS t1)] 27) = w7 at *
      generalize hg6 : w6.heap.size = g6 at *
      clear hW7 hg6
      refine (HLw.out _).mono ?_
      rintro e w8 ⟨rfl, hb8⟩
      have HFa8 := Lib.hid (isFlds_below HFa.out hb8)
      have HF8 := Lib.hid (isFlds_below HF7.out hb8)
      have HB8 := Lib.hid (HB7.out.trans (hb8.mono HB7.out.size))
      clear hb8 HFa HF7
      go_wp2_with fail
      refine (HOn.out _ _ _).mono ?_
      rintro e w9 ⟨rfl, hb9⟩
      have hba := below_allocV w9 (.cells #[.string (mkS (lowL nm)), .string (mkS t2)] 27)
      have HFa9 := Lib.hid (isFlds_below HFa8.out (hb9.trans (hba.mono hb9.size)))
      have HF9 := Lib.hid (isFlds_below HF8.out (hb9.trans (hba.mono hb9.size)))
      have HFb := Lib.hid (isFlds_litV w9 (lowL nm) t2)
      have HB9 := Lib.hid ((HB8.out.trans (hb9.mono HB8.out.size)).trans (hba.mono (HB8.out.trans (hb9.mono HB8.out.size)).size))
      clear hb9 hba HFa8 HF8
      go_upto_region 18 with fail
      generalize hWa : w9.alloc (.cells #[.string (mkS (lowL nm)), .string (mkS t2)] 27) = wa at *
      generalize hg9 : w9.heap.size = g9 at *
      clear hWa hg9
      have hbs := below_allocV wa (.cells #[.string (mkS nm)] 9)
      have hst : IsStrs (wa.alloc (.cells #[.string (mkS nm)] 9)) (.slice (some ⟨wa.heap.size, 0, none⟩) 1 1) [nm] := isStrs_lit wa [nm] _ _ 1 rfl
      have HBb := Lib.hid (HB9.out.trans (hbs.mono HB9.out.size))
      have HFab := Lib.hid (isFlds_below HFa9.out hbs)
      have HFbb := Lib.hid (isFlds_below HFb.out hbs)
      have HFlb := Lib.hid (isFlds_below HF9.out hbs)
      have HSt := Lib.hid hst
      clear hbs hst
      go_wp2_with fail
      refine (HMa.out _ _ _ _ HBb.out HSt.out HFab.out HFbb.out).mono ?_
      rintro e wc ⟨rfl, hbc⟩
      have HBc := Lib.hid (HBb.out.trans (hbc.mono HBb.out.size))
      have HFac := Lib.hid (isFlds_below HFab.out hbc)
      have HFlc := Lib.hid (isFlds_below HFlb.out hbc)
      clear hbc
      go_wp2_with fail
      refine (HVa.out _ _ HBc.out HFac.out).mono ?_
      rintro e wd ⟨rfl, hbd⟩
      have HBd := Lib.hid (HBc.out.trans (hbd.mono HBc.out.size))
      have HFad := Lib.hid (isFlds_below HFac.out hbd)
      have HFld := Lib.hid (isFlds_below HFlc.out hbd)
      clear hbd
      by_cases hP : P = []
      · as_aux_lemma =>
          subst hP
          obtain rfl : t1 = [] := hp0 rfl
          have HF0 : Hid (IsFlds wd (.slice a9 0 c9) []) := HFld.out
          clear hp0 HMl HVl hlt hi
          go_wp2_with fail
          refine (HVn.out _ _ HBd.out HF0.out).mono ?_
          rintro e we ⟨rfl, hbe⟩
          have HBe := Lib.hid (HBd.out.trans (hbe.mono HBd.out.size))
          have HFle := Lib.hid (isFlds_below HF0.out hbe)
          have HFae := Lib.hid (isFlds_below HFad.out hbe)
          clear hbe
          go_wp2_with fail
          refine (HVp.out _ _ HBe.out HFae.out).mono ?_
          rintro e wf ⟨rfl, hbf⟩
          have hbs := below_allocV wf (.cells #[.string (mkS nm)] 9)
          have hst : IsStrs (wf.alloc (.cells #[.string (mkS nm)] 9)) (.slice (some ⟨wf.heap.size, 0, none⟩) 1 1) [nm] := isStrs_lit wf [nm] _ _ 1 rfl
          have HBg := Lib.hid ((HBe.out.trans (hbf.mono HBe.out.size)).trans (hbs.mono (HBe.out.trans (hbf.mono HBe.out.size)).size))
          have HFlg := Lib.hid (isFlds_below HFle.out (hbf.trans (hbs.mono hbf.size)))
          have HFag := Lib.hid (isFlds_below HFae.out (hbf.trans (hbs.mono hbf.size)))
          have HStg := Lib.hid hst
          clear hbf hbs hst
          go_wp2_with fail
          refine (HMn.out _ _ _ _ HBg.out HStg.out HFlg.out HFag.out).mono ?_
          rintro e wh ⟨rfl, hbh⟩
          have HBh := Lib.hid (HBg.out.trans (hbh.mono HBg.out.size))
          clear hbh
          go_wp2_with fail
          go_ret
          exact ⟨rfl, HBh.out⟩
      · as_aux_lemma =>
          have hP0 : ((P.length : Int) == 0) = false := by
            have : P.length ≠ 0 := fun e => hP (List.eq_nil_of_length_eq_zero e)
            rw [beq_eq_false_iff_ne]; omega
          have HV2 := Lib.hid (HVl.out hP)
          have HM2 := Lib.hid (HMl.out hP)
          clear hp0 hP HMl HVl HMn HVn HVp hi
          go_wp2_with fail
          refine (HV2.out _ _ HBd.out HFld.out).mono ?_
          rintro e we ⟨rfl, hbe⟩
          have HBe := Lib.hid (HBd.out.trans (hbe.mono HBd.out.size))
          have HFle := Lib.hid (isFlds_below HFld.out hbe)
          have hbs := below_allocV we (.cells #[.string (mkS nm)] 9)
          have hst : IsStrs (we.alloc (.cells #[.string (mkS nm)] 9)) (.slice (some ⟨we.heap.size, 0, none⟩) 1 1) [nm] := isStrs_lit we [nm] _ _ 1 rfl
          have HBf := Lib.hid (HBe.out.trans (hbs.mono HBe.out.size))
          have HFlf := Lib.hid (isFlds_below HFle.out hbs)
          have HStf := Lib.hid hst
          clear hbe hbs hst
          go_wp2_with fail
          generalize hWf : we.alloc (.cells #[.string (mkS nm)] 9) = wf at *
          generalize hge : we.heap.size = ge at *
          clear hWf hge
          refine (HOn.out _ _ _).mono ?_
          rintro e wg ⟨rfl, hbg⟩
          have hbh := below_allocV wg (.cells #[.string (mkS nm), .string (mkS t3)] 27)
          have HBh := Lib.hid ((HBf.out.trans (hbg.mono HBf.out.size)).trans (hbh.mono (HBf.out.trans (hbg.mono HBf.out.size)).size))
          have HFlh := Lib.hid (isFlds_below HFlf.out (hbg.trans (hbh.mono hbg.size)))
          have HSth := Lib.hid (isStrsV_below HStf.out (hbg.trans (hbh.mono hbg.size)))
          have HFh := Lib.hid (isFlds_litV wg nm t3)
          clear hbg hbh
          go_wp2_with fail
          refine (HM2.out _ _ _ _ HBh.out HSth.out HFlh.out HFh.out).mono ?_
          rintro e wi ⟨rfl, hbi⟩
          have HBi := Lib.hid (HBh.out.trans (hbi.mono HBh.out.size))
          clear hbi
          go_wp2_with fail
          go_ret
          exact ⟨rfl, HBi.out⟩

/-- VaryWhite -/
theorem vwhite_any (v u : Value) (P : List Bs) (D : List Int) (nm : Bs) (w : World) (hs : IsStrs w v P) (hu : IsU8s w u D) (hd : ∀ x ∈ D, 0 ≤ x ∧ x < 256) (hz : ∀ x ∈ P, x.length ≤ 140737488351232) (hn : P.length ≤ 140737488351232) (hnm : nm.length ≤ 140737488351232) (hU : Utf w) :
    Calls Tryd.prog 6 #[v, u, .string (mkS nm)] w fun e w' => e = .returned (.bool true) ∧ Below w.heap.size w w' := by
  have H : ∀ qn, tokL nm = qn → VwC w v u P D nm (lightX 10 200 P) qn := fun qn hq => {
    lv := fun W => lives12_any W
    tl := fun W h => (lightX_any 10 200 v P W (by decide) (by decide) (isStrsV_below hs h) hz hn).mono fun e w' ⟨h1, h2⟩ => ⟨h1, h2.symm⟩
    tn := fun h40 W => by
      have h := rToken_any (mkS nm) W (by rw [size_mkS]; omega)
      rw [bs_mkS, hq] at h
      exact h.mono fun e w' ⟨h1, h2⟩ => ⟨h1, h2.symm⟩
    tk := fun x W hx => by
      have h := rToken_any (mkS x) W (by rw [size_mkS]; omega)
      rw [bs_mkS] at h
      exact h.mono fun e w' ⟨h1, h2⟩ => ⟨h1, h2.symm⟩
    tm := fun N W hN => (timesB_any N W hN).mono fun e w' ⟨h1, h2⟩ => ⟨h1, h2.symm⟩
    on := fun n x W => vone_any n x W
    lo := fun h40 W => by
      have h := refLower_any (mkS nm) W (by rw [size_mkS]; omega)
      rw [bs_mkS] at h
      exact h
    vl := fun h40 v l W hb hf hz hl => vval_any v l nm W (hU.later hb) hf hz (by omega) (by omega)
    mt := fun h40 v va vb la lb W hb h1 h2 h3 z1 z2 l1 l2 => match_any v va vb la lb [nm] W h1 (hU.later hb) h2 h3 z1 z2 (by omega) (by omega) (fun x hx => by rw [List.mem_singleton] at hx; subst hx; omega) (by simp)
    st := hs
    su := hu
    dr := hd
    ln := fun h => lightX_parts 10 200 P h }
  obtain ⟨a, c, ev⟩ : ∃ a c, v = .slice a P.length c := by obtain ⟨a, c, h, -⟩ := hs; exact ⟨a, c, h⟩
  obtain ⟨ad, cd, eu⟩ : ∃ a c, u = .slice a D.length c := by obtain ⟨a, c, h, -⟩ := hu; exact ⟨a, c, h⟩
  by_cases h1 : (10 : Int) < (P.length : Int)
  · exact vw_long v u P D nm w _ _ h1 a ad c cd ev eu (H _ rfl)
  by_cases h2 : (D.length : Int) < (P.length : Int)
  · exact vw_short v u P D nm w _ _ h1 h2 a ad c cd ev eu (H _ rfl)
  cases hq : lightX 10 200 P
  · have h := H _ rfl
    rw [hq] at h
    exact vw_heavy v u P D nm w _ h1 h2 a ad c cd ev eu h
  by_cases h3 : (40 : Int) < ((mkS nm).size : Int)
  · have h := H _ rfl
    rw [hq] at h
    exact vw_name v u P D nm w _ h1 h2 h3 a ad c cd ev eu h
  cases ht : tokL nm
  · have h := H _ ht
    rw [hq] at h
    exact vw_tok v u P D nm w h1 h2 h3 a ad c cd ev eu h
  · have h := H _ ht
    rw [hq] at h
    exact vw_main v u P D nm w h1 h2 h3 a ad c cd ev eu h

end Tk
end Go.Proofs.YthooghgiokgdhaaDoor
