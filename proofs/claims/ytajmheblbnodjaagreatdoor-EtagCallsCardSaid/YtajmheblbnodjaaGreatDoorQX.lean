/- DrJ, put together. -/
import Derived.Test.YtajmheblbnodjaaGreatDoorQU
import Derived.Test.YtajmheblbnodjaaGreatDoorQW
import Derived.Deep.Cut
namespace Go.Proofs.YtajmheblbnodjaaGreatDoor
open Go.RowKit
namespace Tk

theorem fs_gen {α β : Type} (f : α → Option β) (a b m : α) (p : Prop) [Decidable p] : ([a, b] ++ (if p then [m] else [])).findSome? f = (match f a with | some t => some t | none => match f b with | some t => some t | none => if p then f m else none) := by
  cases h1 : f a <;> cases h2 : f b <;> by_cases hp : p <;> simp [h1, h2, hp, List.findSome?]
  all_goals (cases f m <;> rfl)
theorem fs_some {α β : Type} (f : α → Option β) (L : List α) (i : Nat) (hi : i < L.length) (t : β) (h : f L[i] = some t) : (L.drop i).findSome? f = some t := by
  rw [List.drop_eq_getElem_cons hi]; simp [List.findSome?, h]
theorem fs_none {α β : Type} (f : α → Option β) (L : List α) (i : Nat) (hi : i < L.length) (h : f L[i] = none) : (L.drop i).findSome? f = (L.drop (i + 1)).findSome? f := by
  rw [List.drop_eq_getElem_cons hi]; simp [List.findSome?, h]
def firstT (L : List Cv) (s : Bs) : Option Int := L.findSome? fun c => rTry c s
theorem first_rP (s : Bs) (now : Int) : pP s (yNow now) = firstT (triesL s now) s := by
  have h := fs_gen (fun c => rTry c s) (cvA s) (cvK s) (cvM s (yNow now)) (0 ≤ rnum s (cma s + 9) (cma s + 11))
  have h2 : firstT (triesL s now) s = _ := h
  rw [h2, ← rP_eq]
  unfold rP
  clear h h2
  generalize rTry (cvA s) s = ra
  generalize rTry (cvK s) s = rb
  generalize rTry (cvM s (yNow now)) s = rm
  cases ra <;> cases rb <;> rfl
def cv0 : Cv := ⟨0, 0, 0, 0, 0, 0, 0⟩
theorem getD_cv (L : List Cv) (i : Nat) (hi : i < L.length) : L.getD i cv0 = L[i] := by simp [List.getD, hi]
theorem first_some (L : List Cv) (s : Bs) (i : Nat) (hi : i < L.length) (t : Int) (h : rTry (L.getD i cv0) s = some t) : firstT (L.drop i) s = some t :=
  fs_some (fun c => rTry c s) L i hi t (by rw [getD_cv L i hi] at h; exact h)
theorem first_none (L : List Cv) (s : Bs) (i : Nat) (hi : i < L.length) (h : rTry (L.getD i cv0) s = none) : firstT (L.drop i) s = firstT (L.drop (i + 1)) s :=
  fs_none (fun c => rTry c s) L i hi (by rw [getD_cv L i hi] at h; exact h)
theorem rTry_day (c : Cv) (s : Bs) (h : okDay c.y c.m c.d = false) : rTry c s = none := by
  unfold rTry
  rw [if_neg]
  rintro ⟨h1, -⟩
  rw [okC_split] at h1
  have e : okDay (wkd c).y (wkd c).m (wkd c).d = false := h
  rw [e] at h1
  cases h1
theorem rTry_ok (c : Cv) (s : Bs) (h : okC (wkd c) = false) : rTry c s = none := by
  unfold rTry; rw [if_neg]; rintro ⟨h1, -⟩; rw [h] at h1; cases h1
theorem rTry_hit (c : Cv) (s : Bs) (h : okC (wkd c) = true) (k : Nat) (hk : k < 3) (he : [fA (wkd c), fB (wkd c), fC (wkd c)].getD k [] = s) : rTry c s = some (secC (wkd c)) := by
  have hor : fA (wkd c) = s ∨ fB (wkd c) = s ∨ fC (wkd c) = s := by
    rcases (by omega : k = 0 ∨ k = 1 ∨ k = 2) with rfl | rfl | rfl
    · exact .inl he
    · exact .inr (.inl he)
    · exact .inr (.inr he)
  unfold rTry
  rw [if_pos ⟨h, hor⟩]
theorem rTry_miss (c : Cv) (s : Bs) (h : ∀ k, k < 3 → [fA (wkd c), fB (wkd c), fC (wkd c)].getD k [] ≠ s) : rTry c s = none := by
  unfold rTry
  rw [if_neg]
  rintro ⟨-, h1 | h1 | h1⟩
  · exact h 0 (by omega) h1
  · exact h 1 (by omega) h1
  · exact h 2 (by omega) h1
theorem isCvs_drew {w : World} {v : Value} {l : List Cv} (h : IsCvs w v l) (n : Nat) : IsCvs (w.drewN n) v l := h
theorem isCvs_set {w : World} {g gx cap : Nat} {T : TypeId} {cs : Array Value} {l : List Cv} (h : IsCvs w (.slice (some ⟨g, 0, none⟩) l.length cap) l) (_hX : Bx w gx T cs) (i : Nat) (v : Value) (hne : g ≠ gx) : IsCvs (w.setCell ⟨gx, i, none⟩ v) (.slice (some ⟨g, 0, none⟩) l.length cap) l := by
  obtain ⟨g', cap', e, hc⟩ := h
  injection e with e1 _ e2
  injection e1 with e1
  injection e1 with e1 _
  subst e1 e2
  refine ⟨g, cap, rfl, fun j c hj k u hk => ?_⟩
  have h1 := hc j c hj k u hk
  have h2 := heap_setCell_other w ⟨gx, i, none⟩ g v (fun e => hne e)
  simp only [World.cell?] at h1 ⊢
  rw [h2]; exact h1
theorem optP_ret {o : Option Int} {a b : Int} (h1 : optV o = a) (h2 : optE o = b) : Ending.returned (.tuple #[.int .i64 a, .int .i64 b]) = .returned (.tuple #[.int .i64 (optV o), .int .i64 (optE o)]) := by subst h1 h2; rfl

set_option maxHeartbeats 16000000 in
set_option maxRecDepth 100000 in
theorem rparse9_any (s : ByteArray) (now : Int) (w : World) (hs : s.size ≤ 900) :
    Calls Tryz.prog 113 #[.string s, .int .i64 now] w (OptPost (pP (bs s) (yNow now)) w) := by
  have HTr := Lib.hid (rtries_any s now w hs)
  have HP := Lib.hid (first_rP (bs s) now)
  have HD := Lib.hid (fun (y m d : Int) (W : World) => rdays_any y m d W)
  have HS := Lib.hid (fun (c : Cv) (W : World) => rseconds_any c W)
  have HF := Lib.hid (fun (c : Cv) (W : World) (h : Rg c) => rforms_any c W h)
  have hlen : (triesL (bs s) now).length ≤ 3 := by unfold triesL; split <;> simp
  unfold TriesPost at HTr
  unfold OptPost
  generalize pP (bs s) (yNow now) = R at *
  generalize triesL (bs s) now = L at *
  have HFs := Lib.hid (first_some L (bs s))
  have HFn := Lib.hid (first_none L (bs s))
  go_enter Tryz.func113, Tryz.ntmps113
  go_wp2_with fail
  refine HTr.out.mono ?_
  rintro e w1 ⟨v1, rfl, hcv, hb⟩
  have HB1 := Lib.hid hb
  have HC1 := Lib.hid hcv
  obtain ⟨g, cap, rfl, -⟩ := hcv
  clear hb
  go_wp2_with fail
  go_loopw [7] (fun v7 wr => ∃ i : Nat, i ≤ L.length ∧ v7 = .int .i64 i ∧ Hid (IsCvs wr (.slice (some ⟨g, 0, none⟩) L.length cap) L) ∧ Hid (R = firstT (L.drop i) (bs s)) ∧ Hid (Below w.heap.size w wr)) (fun v7 _ => L.length - (RowKit.intOf v7).toNat)
  case atStart => exact ⟨0, Nat.zero_le _, rfl, HC1, HP.out, HB1⟩
  case round =>
    obtain ⟨i, hi, rfl, HC, HR, HB⟩ := hrel
    rename World => wr
    clear HC1 HB1 HTr HP
    by_cases hlt : i < L.length
    · obtain ⟨g', cap', e', hcell⟩ := HC.out
      injection e' with e1 _ e2
      injection e1 with e1
      injection e1 with e1 _
      subst e1 e2
      have hcl := hcell i (L.getD i cv0) (by rw [getD_cv L i hlt]; exact List.getElem?_eq_getElem hlt)
      have HF1 := Lib.hid (HFs.out i hlt)
      have HF2 := Lib.hid (HFn.out i hlt)
      clear hcell
      generalize L.getD i cv0 = c at *
      have HK1 := Lib.hid (rTry_day c (bs s))
      have HK2 := Lib.hid (rTry_ok c (bs s))
      have HK3 := Lib.hid (rTry_hit c (bs s))
      have HK4 := Lib.hid (rTry_miss c (bs s))
      have HWk : Hid (wkd c = ⟨c.y, c.m, c.d, c.h, c.n, c.s, (dayN c.y c.m c.d + 4) % 7⟩) := rfl
      have x0 : wr.cell? ⟨g, i * 7, none⟩ = some (.int .i64 c.y) := hcl 0 _ rfl
      have x1 : wr.cell? ⟨g, i * 7 + 1, none⟩ = some (.int .i64 c.m) := hcl 1 _ rfl
      have x2 : wr.cell? ⟨g, i * 7 + 2, none⟩ = some (.int .i64 c.d) := hcl 2 _ rfl
      have x3 : wr.cell? ⟨g, i * 7 + 3, none⟩ = some (.int .i64 c.h) := hcl 3 _ rfl
      have x4 : wr.cell? ⟨g, i * 7 + 4, none⟩ = some (.int .i64 c.n) := hcl 4 _ rfl
      have x5 : wr.cell? ⟨g, i * 7 + 5, none⟩ = some (.int .i64 c.s) := hcl 5 _ rfl
      have x6 : wr.cell? ⟨g, i * 7 + 6, none⟩ = some (.int .i64 c.w) := hcl 6 _ rfl
      have g0 : (0 : Int) ≤ (i : Int) := by omega
      have g1 : (i : Int) < (L.length : Int) := by omega
      have HDd := Lib.hid (HD.out c.y c.m c.d)
      have hdv : okDay c.y c.m c.d = true → dayV c.y c.m c.d = dayN c.y c.m c.d ∧ dayE c.y c.m c.d = 0 := fun h => by unfold dayV dayE; rw [if_pos h, if_pos h]; exact ⟨rfl, rfl⟩
      have hdb : okDay c.y c.m c.d = false → dayV c.y c.m c.d = 0 ∧ dayE c.y c.m c.d = 2 := fun h => by unfold dayV dayE; rw [h]; exact ⟨rfl, rfl⟩
      cases hod : okDay c.y c.m c.d
      · have HN := Lib.hid (HR.out.trans (HF2.out (HK1.out hod)))
        rw [(hdb hod).1, (hdb hod).2] at HDd
        clear hod hdv hdb HK1 HK2 HK3 HK4 HF1 HF2 HFs HFn HS HF HD HWk hcl
        go_upto_region 5 with (fail)
        go_quiet ((go_at_call 174; exact Calls.quiet_of_same ((HDd.out _).mono fun _ _ h => ⟨h.1, h.2.symm⟩)))
        go_wp2_with fail
        exact ⟨⟨i + 1, hlt, by go_num, isCvs_drew HC.out _, HN, by show Below _ _ _; exact bdrN HB.out _⟩, by simp only [RowKit.intOf]; omega⟩
      · have hwr := (hdv hod)
        rw [hwr.1, hwr.2] at HDd
        obtain ⟨dn, hdn⟩ : ∃ dn, dn = dayN c.y c.m c.d := ⟨_, rfl⟩
        have hrng : 0 ≤ dn ∧ dn ≤ 4000000 := by have := day_range _ _ _ hod; rw [← hdn] at this; omega
        rw [← hdn] at HDd HWk
        have HSc := Lib.hid (HS.out (wkd c))
        have hrg : okC (wkd c) = true → Rg (wkd c) := fun h => okC_rg h
        have HFc := Lib.hid (fun (W : World) (h : okC (wkd c) = true) => HF.out (wkd c) W (hrg h))
        have hse : okC (wkd c) = false → secE (wkd c) = 2 ∧ secX (wkd c) = 0 := fun h => by unfold secE secX; rw [h]; exact ⟨rfl, rfl⟩
        have hso : okC (wkd c) = true → secE (wkd c) = 0 ∧ secX (wkd c) = secC (wkd c) := fun h => by unfold secE secX; rw [if_pos h, if_pos h]; exact ⟨rfl, rfl⟩
        have HSe := Lib.hid hse
        have HSo := Lib.hid hso
        unfold SecPost at HSc
        unfold ListNPost at HFc
        have hwv : cvV (wkd c) = .agg #[.int .i64 c.y, .int .i64 c.m, .int .i64 c.d, .int .i64 c.h, .int .i64 c.n, .int .i64 c.s, .int .i64 ((dn + 4) % 7)] := by rw [HWk.out]; rfl
        rw [hwv] at HSc HFc
        have hL3 : [fA (wkd c), fB (wkd c), fC (wkd c)].length = 3 := rfl
        have HFL := Lib.hid hL3
        rw [hL3] at HFc
        clear hod hdv hdb HK1 HS HF HD hwr hdn hrg hse hso hwv HWk hcl hL3
        generalize [fA (wkd c), fB (wkd c), fC (wkd c)] = FL at *
        generalize secC (wkd c) = sc at *
        generalize secX (wkd c) = sx at *
        generalize secE (wkd c) = se at *
        generalize okC (wkd c) = ok at *
        have hw1 : IntKind.i64.wrap (dn + 4) = dn + 4 := IntWalk.i64_in _ (by omega)
        have hw2 : (dn + 4).tmod 7 = (dn + 4) % 7 := IntWalk.rem_in _ _ (by omega)
        have hw3 : IntKind.i64.wrap ((dn + 4) % 7) = (dn + 4) % 7 := IntWalk.i64_in _ (by omega)
        have HW1 := Lib.hid hw1
        have HW2 := Lib.hid hw2
        have HW3 := Lib.hid hw3
        clear hw1 hw2 hw3
        go_upto_region 5 with (fail)
        go_quiet ((go_at_call 174; exact Calls.quiet_of_same ((HDd.out _).mono fun _ _ h => ⟨h.1, h.2.symm⟩)))
        rename_i nq
        have z0 : (wr.drewN nq).cell? ⟨g, i * 7, none⟩ = some (.int .i64 c.y) := x0
        have z1 : (wr.drewN nq).cell? ⟨g, i * 7 + 1, none⟩ = some (.int .i64 c.m) := x1
        have z2 : (wr.drewN nq).cell? ⟨g, i * 7 + 2, none⟩ = some (.int .i64 c.d) := x2
        have z3 : (wr.drewN nq).cell? ⟨g, i * 7 + 3, none⟩ = some (.int .i64 c.h) := x3
        have z4 : (wr.drewN nq).cell? ⟨g, i * 7 + 4, none⟩ = some (.int .i64 c.n) := x4
        have z5 : (wr.drewN nq).cell? ⟨g, i * 7 + 5, none⟩ = some (.int .i64 c.s) := x5
        have z6 : (wr.drewN nq).cell? ⟨g, i * 7 + 6, none⟩ = some (.int .i64 c.w) := x6
        have HCq := Lib.hid (isCvs_drew HC.out nq)
        have HBq := Lib.hid (bdrN HB.out nq)
        clear x0 x1 x2 x3 x4 x5 x6 HC HB HDd
        generalize wr.drewN nq = W2 at *
        have HNe : Hid (g ≠ W2.heap.size) := fun e => by
          have := cell_ltD (p := ⟨g, i * 7, none⟩) z0
          have e2 : g = W2.heap.size := e
          simp only at this
          omega
        have hX3 := Bx.new W2 194 #[.int .i64 0, .int .i64 0, .int .i64 0, .int .i64 0, .int .i64 0, .int .i64 0, .int .i64 0]
        have hb3 : Below W2.heap.size W2 (W2.alloc (.cells #[.int .i64 0, .int .i64 0, .int .i64 0, .int .i64 0, .int .i64 0, .int .i64 0, .int .i64 0] 194)) := (Below.refl _ _).alloc (Nat.le_refl _) _
        have hgx : w.heap.size ≤ W2.heap.size := HBq.out.size
        go_upto_region 7 with (fail)
        go_wp2_with (refine wpList_storeE rfl _ _ _ rfl W2.heap.size _ #[.int .i64 0, .int .i64 0, .int .i64 0, .int .i64 0, .int .i64 0, .int .i64 0, .int .i64 0] #[.int .i64 c.y, .int .i64 c.m, .int .i64 c.d, .int .i64 c.h, .int .i64 c.n, .int .i64 c.s, .int .i64 c.w] rfl rfl hX3 (by kernel_rfl) rfl rfl ?_)
        clear z0 z1 z2 z3 z4 z5 z6 hX3 hb3
        have u1 := HW1.out
        have u2 := HW2.out
        have u3 := HW3.out
        go_upto_region 9 with (fail)
        clear u1 u2 u3
        have HX5 := Lib.hid (Bx.new W2 194 #[.int .i64 c.y, .int .i64 c.m, .int .i64 c.d, .int .i64 c.h, .int .i64 c.n, .int .i64 c.s, .int .i64 ((dn + 4) % 7)])
        have hb5 : Below W2.heap.size W2 (W2.alloc (.cells #[.int .i64 c.y, .int .i64 c.m, .int .i64 c.d, .int .i64 c.h, .int .i64 c.n, .int .i64 c.s, .int .i64 ((dn + 4) % 7)] 194)) := (Below.refl _ _).alloc (Nat.le_refl _) _
        have HC5 := Lib.hid (isCvs_below HCq.out hb5)
        have HB5 := Lib.hid (HBq.out.trans (hb5.mono hgx))
        clear hb5 HCq HBq
        generalize W2.alloc (.cells #[.int .i64 c.y, .int .i64 c.m, .int .i64 c.d, .int .i64 c.h, .int .i64 c.n, .int .i64 c.s, .int .i64 ((dn + 4) % 7)] 194) = W5 at *
        generalize W2.heap.size = gx at *
        have m0 := HX5.out.cell 0 _ rfl
        have m1 := HX5.out.cell 1 _ rfl
        have m2 := HX5.out.cell 2 _ rfl
        have m3 := HX5.out.cell 3 _ rfl
        have m4 := HX5.out.cell 4 _ rfl
        have m5 := HX5.out.cell 5 _ rfl
        have m6 := HX5.out.cell 6 _ rfl
        go_wp2_with fail
        refine (HSc.out _).mono ?_
        rintro e w6 ⟨rfl, hb⟩
        have HX6 := Lib.hid (Bx.later HX5.out hb)
        have HC6 := Lib.hid (isCvs_below HC5.out hb)
        have HB6 := Lib.hid (HB5.out.trans (hb.mono HB5.out.size))
        clear hb m0 m1 m2 m3 m4 m5 m6 HX5 HC5 HB5 HSc
        cases hok : ok
        · have HE := Lib.hid (HSe.out hok)
          have HN := Lib.hid (HR.out.trans (HF2.out (HK2.out hok)))
          have e1 : (se == 0) = false := by rw [HE.out.1]; rfl
          have e2 : (se != 0) = true := by unfold bne; rw [e1]; rfl
          clear hok HSe HSo HK2 HK3 HK4 HF1 HF2 HFs HFn HFc
          go_wp2_with fail
          exact ⟨⟨i + 1, hlt, by go_num, HC6, HN, HB6⟩, by simp only [RowKit.intOf]; omega⟩
        · have HE := Lib.hid (HSo.out hok)
          have e1 : (se == 0) = true := by rw [HE.out.1]; rfl
          have e2 : (se != 0) = false := by unfold bne; rw [e1]; rfl
          have HFf := Lib.hid (fun W => HFc.out W hok)
          have HK3b := Lib.hid (HK3.out hok)
          have m0 := HX6.out.cell 0 _ rfl
          have m1 := HX6.out.cell 1 _ rfl
          have m2 := HX6.out.cell 2 _ rfl
          have m3 := HX6.out.cell 3 _ rfl
          have m4 := HX6.out.cell 4 _ rfl
          have m5 := HX6.out.cell 5 _ rfl
          have m6 := HX6.out.cell 6 _ rfl
          clear hok HSe HSo HK2 HK3 HFc
          go_wp2_with fail
          refine (HFf.out _).mono ?_
          rintro e w7 ⟨gf, rfl, hgf1, hgf2, hst, hb⟩
          have HC7 := Lib.hid (isCvs_below HC6.out hb)
          have HB7 := Lib.hid (HB6.out.trans (hb.mono HB6.out.size))
          have HSt := Lib.hid (fun k hk => StrB.cell hst k hk)
          have hFL : FL.length = 3 := by
            have := HFL.out
            exact this
          clear hb hst m0 m1 m2 m3 m4 m5 m6 HX6 HC6 HB6
          go_wp2_with fail
          go_loop [14] (fun v14 => ∃ k : Nat, k ≤ 3 ∧ v14 = .int .i64 k ∧ Hid (∀ j, j < k → FL.getD j [] ≠ bs s)) (fun v14 => 3 - (RowKit.intOf v14).toNat)
          case atStart => exact ⟨0, by omega, rfl, fun j hj => absurd hj (Nat.not_lt_zero _)⟩
          case round =>
            obtain ⟨k, hk, rfl, HAl⟩ := hrel
            by_cases hk3 : k < 3
            · have hc := HSt.out k (by omega)
              have k0 : (0 : Int) ≤ (k : Int) := by omega
              have k1 : (k : Int) < 3 := by omega
              by_cases he : FL.getD k [] = bs s
              · have hQ := HR.out.trans (HF1.out _ (HK3b.out k hk3 he))
                have HQ := Lib.hid hQ
                have e3 : ((mkS (FL.getD k [])).toList == s.toList) = true := by rw [toList_bs, toList_bs, bs_mkS, he]; exact beq_self_eq_true _
                clear hQ he hFL HAl
                generalize mkS (FL.getD k []) = X at *
                go_wp2_with fail
                go_ret2
                exact ⟨optP_ret (by rw [HQ.out, HE.out.2]; rfl) (by rw [HQ.out]; rfl), HB7.out⟩
              · have HA2 : Hid (∀ j, j < k + 1 → FL.getD j [] ≠ bs s) := fun j hj => by
                  by_cases e : j = k
                  · subst e; exact he
                  · exact HAl.out j (by omega)
                have e3 : ((mkS (FL.getD k [])).toList == s.toList) = false := beq_eq_false_iff_ne.2 fun e => he (by rw [toList_bs, toList_bs, bs_mkS] at e; exact e)
                clear he hFL HAl
                generalize mkS (FL.getD k []) = X at *
                go_wp2_with fail
                exact ⟨⟨k + 1, by omega, by go_num, HA2⟩, by simp only [RowKit.intOf]; omega⟩
            · obtain rfl : k = 3 := by omega
              have HN := Lib.hid (HR.out.trans (HF2.out (HK4.out fun j hj => HAl.out j hj)))
              clear HAl HF1 HF2 HK3b HK4 hFL
              go_wp2_with fail
              exact ⟨⟨i + 1, hlt, by go_num, HC7, HN, HB7⟩, by simp only [RowKit.intOf]; omega⟩
    · obtain rfl : i = L.length := by omega
      have hr := HR.out
      rw [List.drop_length] at hr
      have HRn : Hid (R = none) := hr
      clear hr HR
      go_wp2_with fail
      go_ret2
      exact ⟨optP_ret (by rw [HRn.out]; rfl) (by rw [HRn.out]; rfl), HB.out⟩
end Tk
end Go.Proofs.YtajmheblbnodjaaGreatDoor
