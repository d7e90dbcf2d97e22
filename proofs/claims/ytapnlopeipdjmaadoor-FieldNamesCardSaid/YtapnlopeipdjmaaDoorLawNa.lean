/- The law FieldNames: the chapter's examples, call by call. -/
import Derived.Test.YtapnlopeipdjmaaDoorNmC
import Derived.Test.YtapnlopeipdjmaaDoorFldW
import Derived.Test.YtapnlopeipdjmaaDoorFldQ
import Derived.Test.YtapnlopeipdjmaaDoorFldP
import Derived.Test.YtapnlopeipdjmaaDoorFldN
import Derived.Test.YtapnlopeipdjmaaDoorFrmE
namespace Go.Proofs.YtapnlopeipdjmaaDoor
open Go.RowKit
namespace Tk

def na_row : List (Bs × Bs) := [([97], [49]), ([66], [50, 44, 32, 120]), ([65], [51])]
def na_sp : List (Bs × Bs) := [([97], [32, 49])]
def na_set : List (Bs × Bs) := [([97], [57]), ([66], [50, 44, 32, 120])]
def na_set4 : List (Bs × Bs) := [([97], [49]), ([66], [50, 44, 32, 120]), ([65], [51]), ([99], [52])]
def na_del : List (Bs × Bs) := [([66], [50, 44, 32, 120])]
def na_no : List (Bs × Bs) := []
def nt_n : List Bs := [[97], [98]]
def nt_a : List Bs := [[49], [51]]
def nt_l : List Bs := [[50], [120]]

theorem na_z (l : List (Bs × Bs)) (h : (l.all fun f => decide (f.1.length ≤ 100) && decide (f.2.length ≤ 100)) = true) : ∀ f ∈ l, f.1.length ≤ 1099511627776 ∧ f.2.length ≤ 1099511627776 := by
  intro f hf
  have := List.all_eq_true.1 h f hf
  simp at this
  omega
def ByIs (l : List (Bs × Bs)) (t : ByteArray) (E : Int) : Prop := ∀ (W : World) (v : Value), IsFlds W v l → Calls Tryd.prog 31 #[v] W fun e w' => e = .returned (.tuple #[.string t, .int .i64 E]) ∧ Below W.heap.size W w'
theorem by_is (l : List (Bs × Bs)) (t : ByteArray) (E : Int) (h : byN l = bs t ∧ byE l = E) (hz : sumF l ≤ 1000000) (hl : l.length ≤ 1048576) : ByIs l t E := fun W v hs => by
  have := bytes_any v l W hs (by omega) (by omega)
  unfold BytesPost at this
  rw [h.1, h.2, mkS_bs] at this
  exact this
def GtIs (l : List (Bs × Bs)) (n t : ByteArray) (b : Bool) : Prop := ∀ (W : World) (v : Value), IsFlds W v l → Calls Tryd.prog 33 #[v, .string n] W fun e w' => e = .returned (.tuple #[.string t, .bool b]) ∧ Below W.heap.size W w'
theorem gt_is (l : List (Bs × Bs)) (n t : ByteArray) (b : Bool) (h : joinB (allF l (bs n)) = bs t ∧ decide (0 < (allF l (bs n)).length) = b) (hz : sumF l ≤ 1000000) (hn : (bs n).length ≤ 100) (hl : l.length ≤ 1048576) : GtIs l n t b := fun W v hs => by
  have := fget_any v l (bs n) W hs (by omega) (by omega) hl
  rw [h.1, h.2, mkS_bs, mkS_bs] at this
  exact this
def NmIs (l : List (Bs × Bs)) (m : List Bs) : Prop := ∀ (W : World) (v : Value), IsFlds W v l → Calls Tryd.prog 34 #[v] W fun e w' => ∃ v', e = .returned (.tuple #[v', .bool true]) ∧ IsStrs w' v' m ∧ Below W.heap.size W w'
theorem nm_is (l : List (Bs × Bs)) (m : List Bs) (h : namesL l = m) (hz : ∀ f ∈ l, f.1.length ≤ 1099511627776 ∧ f.2.length ≤ 1099511627776) (hl : l.length ≤ 1048576) : NmIs l m := fun W v hs => by
  refine (lnames_any v l W hs hz hl).mono ?_
  rintro e w' ⟨v', rfl, ho, hb⟩
  rw [h] at ho
  exact ⟨v', rfl, isStrs_own ho, hb⟩
def SmIs (l : List Bs) : Prop := ∀ (W : World) (v v' : Value), IsStrs W v l → IsStrs W v' l → Calls Tryd.prog 35 #[v, v'] W fun e w' => e = .returned (.bool true) ∧ Below W.heap.size W w'
theorem sm_is (l : List Bs) (hl : l.length ≤ 1099511627776) : SmIs l := fun W v v' h1 h2 => by
  refine (same_any v v' l l W h1 h2 hl hl).mono ?_
  rintro e w' ⟨rfl, n, rfl⟩
  exact ⟨by simp, below_drewN (Below.refl _ _) n⟩
def AlIs (f : FuncId) (l : List (Bs × Bs)) (n : ByteArray) (m : List Bs) : Prop := ∀ (W : World) (v : Value), IsFlds W v l → Calls Tryd.prog f #[v, .string n] W fun e w' => ∃ v', e = .returned v' ∧ IsStrs w' v' m ∧ Below W.heap.size W w'
theorem al_is (l : List (Bs × Bs)) (n : ByteArray) (m : List Bs) (h : allF l (bs n) = m) (hz : ∀ f ∈ l, f.1.length ≤ 1099511627776 ∧ f.2.length ≤ 1099511627776) (hn : (bs n).length ≤ 100) (hl : l.length ≤ 1048576) : AlIs 36 l n m := fun W v hs => by
  have h2 := fall_any v l (bs n) W hs hz (by omega) hl
  rw [h, mkS_bs] at h2
  refine h2.mono ?_
  rintro e w' ⟨v', rfl, ho, hb⟩
  exact ⟨v', rfl, isStrs_own ho, hb⟩
theorem li_is (l : List (Bs × Bs)) (n : ByteArray) (m : List Bs) (h : listF l (bs n) = m) (hz : sumF l ≤ 1000000) (hn : (bs n).length ≤ 100) (hl : l.length ≤ 1048576) : AlIs 37 l n m := fun W v hs => by
  have h2 := flist_any v l (bs n) W hs hz (by omega) hl
  rw [h, mkS_bs] at h2
  refine h2.mono ?_
  rintro e w' ⟨v', rfl, ho, hb⟩
  exact ⟨v', rfl, isStrs_own ho, hb⟩
def FsIs (l m : List (Bs × Bs)) (b : Bool) : Prop := ∀ (W : World) (v v' : Value), IsFlds W v l → IsFlds W v' m → Calls Tryd.prog 38 #[v, v'] W fun e w' => e = .returned (.bool b) ∧ Below W.heap.size W w'
theorem fs_is (l m : List (Bs × Bs)) (b : Bool) (h : sameFs l m = b) (hz : ∀ f ∈ l, f.1.length ≤ 1099511627776 ∧ f.2.length ≤ 1099511627776) (hy : ∀ f ∈ m, f.1.length ≤ 1099511627776 ∧ f.2.length ≤ 1099511627776) (hl : l.length ≤ 1000) (hm : m.length ≤ 1000) : FsIs l m b := fun W v v' h1 h2 => by
  have := fsame_any v v' l m W h1 h2 (fun f hf => hf.elim (fun h => (hz f h).1) (fun h => (hy f h).1)) (by omega) (by omega)
  rw [h] at this
  exact this
def SeIs (l : List (Bs × Bs)) (n x : ByteArray) (m : List (Bs × Bs)) (k : Nat) : Prop := ∀ (W : World) (v : Value), IsFlds W v l → Calls Tryd.prog 39 #[v, .string n, .string x] W fun e w' => ∃ a c, e = .returned (.slice a k c) ∧ IsFlds w' (.slice a k c) m ∧ Below W.heap.size W w'
theorem se_is (l : List (Bs × Bs)) (n x : ByteArray) (m : List (Bs × Bs)) (k : Nat) (h : setF (bs n) (bs x) l = m) (hk : m.length = k) (hz : ∀ f ∈ l, f.1.length ≤ 1099511627776 ∧ f.2.length ≤ 1099511627776) (hn : (bs n).length ≤ 100) (hx : (bs x).length ≤ 100) (hl : l.length ≤ 1000) : SeIs l n x m k := fun W v hs => by
  have h2 := fset_any v l (bs n) (bs x) W hs hz (by omega) (by omega) (by omega)
  rw [h, mkS_bs, mkS_bs] at h2
  refine h2.mono ?_
  rintro e w' ⟨v', rfl, ho, hb⟩
  have hf := isFlds_own ho
  obtain ⟨a, c, rfl, hr⟩ := hf
  subst hk
  exact ⟨a, c, rfl, ⟨a, c, rfl, hr⟩, hb⟩
def DeIs (l : List (Bs × Bs)) (n : ByteArray) (m : List (Bs × Bs)) (k : Nat) : Prop := ∀ (W : World) (g j c : Nat), IsFlds W (.slice (some ⟨g, 0, none⟩) j c) l → Calls Tryd.prog 40 #[.slice (some ⟨g, 0, none⟩) j c, .string n] W fun e w' => ∃ a c, e = .returned (.slice a k c) ∧ IsFlds w' (.slice a k c) m ∧ Below W.heap.size W w'
theorem de_is (l : List (Bs × Bs)) (n : ByteArray) (m : List (Bs × Bs)) (k : Nat) (h : delF (bs n) l = m) (hk : m.length = k) (hz : ∀ f ∈ l, f.1.length ≤ 1099511627776 ∧ f.2.length ≤ 1099511627776) (hn : (bs n).length ≤ 100) (hl : l.length ≤ 1000) : DeIs l n m k := fun W g j c0 hs => by
  have h2 := fdel_any _ l (bs n) W hs (fun n c e => by injection e with e; cases e) hz (by omega) (by omega)
  rw [h, mkS_bs] at h2
  refine h2.mono ?_
  rintro e w' ⟨v', rfl, ho, hb⟩
  have hf := isFlds_own ho
  obtain ⟨a, c, rfl, hr⟩ := hf
  subst hk
  exact ⟨a, c, rfl, ⟨a, c, rfl, hr⟩, hb⟩
def CkIs (n x : ByteArray) (E : Int) : Prop := ∀ W : World, Calls Tryd.prog 41 #[.agg #[.string n, .string x]] W fun e w' => e = .returned (.int .i64 E) ∧ Below W.heap.size W w'
theorem ck_is (n x : ByteArray) (E : Int) (h : okE (bs n) (bs x) = E) (hn : n.size ≤ 100) (hx : x.size ≤ 100) : CkIs n x E := fun W => by
  have := check_any' n x W (by omega) (by omega)
  rw [h] at this
  exact this

set_option maxRecDepth 100000 in
set_option maxHeartbeats 1000000 in
theorem row02_any (w : World) : Calls Tryd.prog 32 #[] w fun e w' => ∃ g, e = .returned (.slice (some ⟨g, 0, none⟩) 3 3) ∧ IsFlds w' (.slice (some ⟨g, 0, none⟩) 3 3) na_row ∧ Below w.heap.size w w' := by
  go_enter Tryd.func32, Tryd.ntmps32
  go_wp2_with fail
  go_ret
  exact ⟨_, rfl, isFlds_cells _ na_row _ 3 rfl rfl, (Below.refl _ _).alloc (Nat.le_refl _) _⟩

theorem y1_is : ByIs na_row ⟨#[97, 58, 32, 49, 13, 10, 66, 58, 32, 50, 44, 32, 120, 13, 10, 65, 58, 32, 51, 13, 10]⟩ 0 := by_is _ _ _ (by decide +kernel) (by decide) (by decide)
theorem y2_is : ByIs na_sp ⟨#[]⟩ 4 := by_is _ _ _ (by decide +kernel) (by decide) (by decide)
theorem t1_is : GtIs na_row ⟨#[65]⟩ ⟨#[49, 44, 32, 51]⟩ true := gt_is _ _ _ _ (by decide +kernel) (by decide) (by decide) (by decide)
theorem t2_is : GtIs na_row ⟨#[99]⟩ ⟨#[]⟩ false := gt_is _ _ _ _ (by decide +kernel) (by decide) (by decide) (by decide)
theorem nm1_is : NmIs na_row nt_n := nm_is _ _ (by decide +kernel) (na_z _ (by decide)) (by decide)
theorem s1_is : SmIs nt_n := sm_is _ (by decide)
theorem s2_is : SmIs nt_a := sm_is _ (by decide)
theorem s3_is : SmIs nt_l := sm_is _ (by decide)
theorem al1_is : AlIs 36 na_row ⟨#[97]⟩ nt_a := al_is _ _ _ (by decide +kernel) (na_z _ (by decide)) (by decide) (by decide)
theorem li1_is : AlIs 37 na_row ⟨#[98]⟩ nt_l := li_is _ _ _ (by decide +kernel) (by decide) (by decide) (by decide)
theorem e1_is : SeIs na_row ⟨#[65]⟩ ⟨#[57]⟩ na_set 2 := se_is _ _ _ _ _ (by decide +kernel) rfl (na_z _ (by decide)) (by decide) (by decide) (by decide)
theorem e2_is : SeIs na_row ⟨#[99]⟩ ⟨#[52]⟩ na_set4 4 := se_is _ _ _ _ _ (by decide +kernel) rfl (na_z _ (by decide)) (by decide) (by decide) (by decide)
theorem d1_is : DeIs na_row ⟨#[65]⟩ na_del 1 := de_is _ _ _ _ (by decide +kernel) rfl (na_z _ (by decide)) (by decide) (by decide)
theorem f1_is : FsIs na_set na_set true := fs_is _ _ _ (by decide +kernel) (na_z _ (by decide)) (na_z _ (by decide)) (by decide) (by decide)
theorem f2_is : FsIs na_no na_no true := fs_is _ _ _ (by decide +kernel) (na_z _ (by decide)) (na_z _ (by decide)) (by decide) (by decide)
theorem f3_is : FsIs na_row na_no false := fs_is _ _ _ (by decide +kernel) (na_z _ (by decide)) (na_z _ (by decide)) (by decide) (by decide)
theorem c1_is : CkIs ⟨#[]⟩ ⟨#[120]⟩ 4 := ck_is _ _ _ (by decide +kernel) (by decide) (by decide)
theorem c2_is : CkIs ⟨#[120]⟩ ⟨#[]⟩ 0 := ck_is _ _ _ (by decide +kernel) (by decide) (by decide)

set_option maxRecDepth 100000 in
set_option maxHeartbeats 32000000 in
theorem names02_any (w : World) : Calls Tryd.prog 8 #[] w (Yes2 w) := by
  have HL := Lib.hid (lives02_any w)
  have HR := Lib.hid row02_any
  have y1 := y1_is
  have y2 := y2_is
  have t1 := t1_is
  have t2 := t2_is
  have nm1 := nm1_is
  have s1 := s1_is
  have s2 := s2_is
  have s3 := s3_is
  have al1 := al1_is
  have li1 := li1_is
  have e1 := e1_is
  have e2 := e2_is
  have d1 := d1_is
  have f1 := f1_is
  have f2 := f2_is
  have f3 := f3_is
  have c1 := c1_is
  have c2 := c2_is
  unfold AlIs at al1 li1
  unfold ByIs at y1 y2
  unfold CkIs at c1 c2
  unfold DeIs at d1
  unfold FsIs at f1 f2 f3
  unfold GtIs at t1 t2
  unfold NmIs at nm1
  unfold SeIs at e1 e2
  unfold SmIs at s1 s2 s3
  have Cy1 := Lib.hid y1
  have Cy2 := Lib.hid y2
  have Ct1 := Lib.hid t1
  have Ct2 := Lib.hid t2
  have Cnm1 := Lib.hid nm1
  have Cs1 := Lib.hid s1
  have Cs2 := Lib.hid s2
  have Cs3 := Lib.hid s3
  have Cal1 := Lib.hid al1
  have Cli1 := Lib.hid li1
  have Ce1 := Lib.hid e1
  have Ce2 := Lib.hid e2
  have Cd1 := Lib.hid d1
  have Cf1 := Lib.hid f1
  have Cf2 := Lib.hid f2
  have Cf3 := Lib.hid f3
  have Cc1 := Lib.hid c1
  have Cc2 := Lib.hid c2
  clear y1 y2 t1 t2 nm1 s1 s2 s3 al1 li1 e1 e2 d1 f1 f2 f3 c1 c2
  unfold Yes2 at HL ⊢
  go_enter Tryd.func8, Tryd.ntmps8
  go_wp2_with fail
  refine HL.out.mono ?_
  rintro e w0 ⟨rfl, hb⟩
  have HB0 := Lib.hid hb
  clear hb
  go_wp2_with fail
  refine (HR.out _).mono ?_
  rintro e w1 ⟨g2, rfl, hf, hb⟩
  have HB1 := Lib.hid (HB0.out.trans (hb.mono HB0.out.size))
  clear hb HB0
  have F3 := Lib.hid hf
  clear hf
  go_wp2_with fail
  refine (Cy1.out _ _ F3.out).mono ?_
  rintro e w4 ⟨rfl, hb⟩
  have HB4 := Lib.hid (HB1.out.trans (hb.mono HB1.out.size))
  have F5 := Lib.hid (isFlds_below F3.out hb)
  clear hb HB1 F3
  clear F5
  have hbal : Below w4.heap.size w4 (w4.alloc (Obj.cells #[.string ⟨#[97]⟩, .string ⟨#[32, 49]⟩] 24)) := (Below.refl _ _).alloc (Nat.le_refl _) _
  have HB6 := Lib.hid (HB4.out.trans (hbal.mono HB4.out.size))
  clear hbal HB4
  have F8 := Lib.hid (isFlds_cells w4 na_sp #[.string ⟨#[97]⟩, .string ⟨#[32, 49]⟩] 1 rfl rfl)
  go_wp2_with fail
  generalize w4.alloc (Obj.cells #[.string ⟨#[97]⟩, .string ⟨#[32, 49]⟩] 24) = w7 at *
  generalize w4.heap.size = g7 at *
  refine (Cy2.out _ _ F8.out).mono ?_
  rintro e w9 ⟨rfl, hb⟩
  have HB9 := Lib.hid (HB6.out.trans (hb.mono HB6.out.size))
  have F10 := Lib.hid (isFlds_below F8.out hb)
  clear hb HB6 F8
  clear F10
  go_wp2_with fail
  refine (HR.out _).mono ?_
  rintro e w11 ⟨g12, rfl, hf, hb⟩
  have HB11 := Lib.hid (HB9.out.trans (hb.mono HB9.out.size))
  clear hb HB9
  have F13 := Lib.hid hf
  clear hf
  go_wp2_with fail
  refine (Ct1.out _ _ F13.out).mono ?_
  rintro e w14 ⟨rfl, hb⟩
  have HB14 := Lib.hid (HB11.out.trans (hb.mono HB11.out.size))
  have F15 := Lib.hid (isFlds_below F13.out hb)
  clear hb HB11 F13
  clear F15
  go_wp2_with fail
  refine (HR.out _).mono ?_
  rintro e w16 ⟨g17, rfl, hf, hb⟩
  have HB16 := Lib.hid (HB14.out.trans (hb.mono HB14.out.size))
  clear hb HB14
  have F18 := Lib.hid hf
  clear hf
  go_wp2_with fail
  refine (Ct2.out _ _ F18.out).mono ?_
  rintro e w19 ⟨rfl, hb⟩
  have HB19 := Lib.hid (HB16.out.trans (hb.mono HB16.out.size))
  have F20 := Lib.hid (isFlds_below F18.out hb)
  clear hb HB16 F18
  clear F20
  go_wp2_with fail
  refine (HR.out _).mono ?_
  rintro e w21 ⟨g22, rfl, hf, hb⟩
  have HB21 := Lib.hid (HB19.out.trans (hb.mono HB19.out.size))
  clear hb HB19
  have F23 := Lib.hid hf
  clear hf
  go_wp2_with fail
  refine (Cnm1.out _ _ F23.out).mono ?_
  rintro e w24 ⟨v25, rfl, hf, hb⟩
  have HB24 := Lib.hid (HB21.out.trans (hb.mono HB21.out.size))
  have F26 := Lib.hid (isFlds_below F23.out hb)
  clear hb HB21 F23
  have F27 := Lib.hid hf
  clear hf
  clear F26
  have hbal : Below w24.heap.size w24 (w24.alloc (Obj.cells #[.string ⟨#[97]⟩, .string ⟨#[98]⟩] 9)) := (Below.refl _ _).alloc (Nat.le_refl _) _
  have HB28 := Lib.hid (HB24.out.trans (hbal.mono HB24.out.size))
  have F29 := Lib.hid (isStrs_below F27.out hbal)
  clear hbal HB24 F27
  have F31 := Lib.hid (isStrs_lit w24 nt_n #[.string ⟨#[97]⟩, .string ⟨#[98]⟩] 9 2 rfl)
  go_wp2_with fail
  generalize w24.alloc (Obj.cells #[.string ⟨#[97]⟩, .string ⟨#[98]⟩] 9) = w30 at *
  generalize w24.heap.size = g30 at *
  refine (Cs1.out _ _ _ F29.out F31.out).mono ?_
  rintro e w32 ⟨rfl, hb⟩
  have HB32 := Lib.hid (HB28.out.trans (hb.mono HB28.out.size))
  have F33 := Lib.hid (isStrs_below F29.out hb)
  have F34 := Lib.hid (isStrs_below F31.out hb)
  clear hb HB28 F29 F31
  clear F33 F34
  go_wp2_with fail
  refine (HR.out _).mono ?_
  rintro e w35 ⟨g36, rfl, hf, hb⟩
  have HB35 := Lib.hid (HB32.out.trans (hb.mono HB32.out.size))
  clear hb HB32
  have F37 := Lib.hid hf
  clear hf
  go_wp2_with fail
  refine (Cal1.out _ _ F37.out).mono ?_
  rintro e w38 ⟨v39, rfl, hf, hb⟩
  have HB38 := Lib.hid (HB35.out.trans (hb.mono HB35.out.size))
  have F40 := Lib.hid (isFlds_below F37.out hb)
  clear hb HB35 F37
  have F41 := Lib.hid hf
  clear hf
  clear F40
  have hbal : Below w38.heap.size w38 (w38.alloc (Obj.cells #[.string ⟨#[49]⟩, .string ⟨#[51]⟩] 9)) := (Below.refl _ _).alloc (Nat.le_refl _) _
  have HB42 := Lib.hid (HB38.out.trans (hbal.mono HB38.out.size))
  have F43 := Lib.hid (isStrs_below F41.out hbal)
  clear hbal HB38 F41
  have F45 := Lib.hid (isStrs_lit w38 nt_a #[.string ⟨#[49]⟩, .string ⟨#[51]⟩] 9 2 rfl)
  go_wp2_with fail
  generalize w38.alloc (Obj.cells #[.string ⟨#[49]⟩, .string ⟨#[51]⟩] 9) = w44 at *
  generalize w38.heap.size = g44 at *
  refine (Cs2.out _ _ _ F43.out F45.out).mono ?_
  rintro e w46 ⟨rfl, hb⟩
  have HB46 := Lib.hid (HB42.out.trans (hb.mono HB42.out.size))
  have F47 := Lib.hid (isStrs_below F43.out hb)
  have F48 := Lib.hid (isStrs_below F45.out hb)
  clear hb HB42 F43 F45
  clear F47 F48
  go_wp2_with fail
  refine (HR.out _).mono ?_
  rintro e w49 ⟨g50, rfl, hf, hb⟩
  have HB49 := Lib.hid (HB46.out.trans (hb.mono HB46.out.size))
  clear hb HB46
  have F51 := Lib.hid hf
  clear hf
  go_wp2_with fail
  refine (Cli1.out _ _ F51.out).mono ?_
  rintro e w52 ⟨v53, rfl, hf, hb⟩
  have HB52 := Lib.hid (HB49.out.trans (hb.mono HB49.out.size))
  have F54 := Lib.hid (isFlds_below F51.out hb)
  clear hb HB49 F51
  have F55 := Lib.hid hf
  clear hf
  clear F54
  have hbal : Below w52.heap.size w52 (w52.alloc (Obj.cells #[.string ⟨#[50]⟩, .string ⟨#[120]⟩] 9)) := (Below.refl _ _).alloc (Nat.le_refl _) _
  have HB56 := Lib.hid (HB52.out.trans (hbal.mono HB52.out.size))
  have F57 := Lib.hid (isStrs_below F55.out hbal)
  clear hbal HB52 F55
  have F59 := Lib.hid (isStrs_lit w52 nt_l #[.string ⟨#[50]⟩, .string ⟨#[120]⟩] 9 2 rfl)
  go_wp2_with fail
  generalize w52.alloc (Obj.cells #[.string ⟨#[50]⟩, .string ⟨#[120]⟩] 9) = w58 at *
  generalize w52.heap.size = g58 at *
  refine (Cs3.out _ _ _ F57.out F59.out).mono ?_
  rintro e w60 ⟨rfl, hb⟩
  have HB60 := Lib.hid (HB56.out.trans (hb.mono HB56.out.size))
  have F61 := Lib.hid (isStrs_below F57.out hb)
  have F62 := Lib.hid (isStrs_below F59.out hb)
  clear hb HB56 F57 F59
  clear F61 F62
  go_wp2_with fail
  refine (HR.out _).mono ?_
  rintro e w63 ⟨g64, rfl, hf, hb⟩
  have HB63 := Lib.hid (HB60.out.trans (hb.mono HB60.out.size))
  clear hb HB60
  have F65 := Lib.hid hf
  clear hf
  go_wp2_with fail
  refine (Ce1.out _ _ F65.out).mono ?_
  rintro e w66 ⟨a67, c67, rfl, hf, hb⟩
  have HB66 := Lib.hid (HB63.out.trans (hb.mono HB63.out.size))
  have F68 := Lib.hid (isFlds_below F65.out hb)
  clear hb HB63 F65
  have F69 := Lib.hid hf
  clear hf
  clear F68
  have hbal : Below w66.heap.size w66 (w66.alloc (Obj.cells #[.string ⟨#[97]⟩, .string ⟨#[57]⟩, .string ⟨#[66]⟩, .string ⟨#[50, 44, 32, 120]⟩] 24)) := (Below.refl _ _).alloc (Nat.le_refl _) _
  have HB70 := Lib.hid (HB66.out.trans (hbal.mono HB66.out.size))
  have F71 := Lib.hid (isFlds_below F69.out hbal)
  clear hbal HB66 F69
  have F73 := Lib.hid (isFlds_cells w66 na_set #[.string ⟨#[97]⟩, .string ⟨#[57]⟩, .string ⟨#[66]⟩, .string ⟨#[50, 44, 32, 120]⟩] 2 rfl rfl)
  go_wp2_with fail
  generalize w66.alloc (Obj.cells #[.string ⟨#[97]⟩, .string ⟨#[57]⟩, .string ⟨#[66]⟩, .string ⟨#[50, 44, 32, 120]⟩] 24) = w72 at *
  generalize w66.heap.size = g72 at *
  refine (Cf1.out _ _ _ F71.out F73.out).mono ?_
  rintro e w74 ⟨rfl, hb⟩
  have HB74 := Lib.hid (HB70.out.trans (hb.mono HB70.out.size))
  have F75 := Lib.hid (isFlds_below F71.out hb)
  have F76 := Lib.hid (isFlds_below F73.out hb)
  clear hb HB70 F71 F73
  clear F75 F76
  go_wp2_with fail
  refine (HR.out _).mono ?_
  rintro e w77 ⟨g78, rfl, hf, hb⟩
  have HB77 := Lib.hid (HB74.out.trans (hb.mono HB74.out.size))
  clear hb HB74
  have F79 := Lib.hid hf
  clear hf
  go_wp2_with fail
  refine (Ce2.out _ _ F79.out).mono ?_
  rintro e w80 ⟨a81, c81, rfl, hf, hb⟩
  have HB80 := Lib.hid (HB77.out.trans (hb.mono HB77.out.size))
  have F82 := Lib.hid (isFlds_below F79.out hb)
  clear hb HB77 F79
  have F83 := Lib.hid hf
  clear hf
  clear F82
  clear F83
  go_wp2_with fail
  refine (HR.out _).mono ?_
  rintro e w84 ⟨g85, rfl, hf, hb⟩
  have HB84 := Lib.hid (HB80.out.trans (hb.mono HB80.out.size))
  clear hb HB80
  have F86 := Lib.hid hf
  clear hf
  go_wp2_with fail
  refine (Cd1.out _ _ _ _ F86.out).mono ?_
  rintro e w87 ⟨a88, c88, rfl, hf, hb⟩
  have HB87 := Lib.hid (HB84.out.trans (hb.mono HB84.out.size))
  have F89 := Lib.hid (isFlds_below F86.out hb)
  clear hb HB84 F86
  have F90 := Lib.hid hf
  clear hf
  clear F89
  clear F90
  go_wp2_with fail
  refine (Cc1.out _).mono ?_
  rintro e w91 ⟨rfl, hb⟩
  have HB91 := Lib.hid (HB87.out.trans (hb.mono HB87.out.size))
  clear hb HB87
  go_wp2_with fail
  refine (Cc2.out _).mono ?_
  rintro e w92 ⟨rfl, hb⟩
  have HB92 := Lib.hid (HB91.out.trans (hb.mono HB91.out.size))
  clear hb HB91
  go_wp2_with fail
  refine (Cf2.out _ _ _ (isFlds_nil _) (isFlds_nil _)).mono ?_
  rintro e w93 ⟨rfl, hb⟩
  have HB93 := Lib.hid (HB92.out.trans (hb.mono HB92.out.size))
  clear hb HB92
  go_wp2_with fail
  refine (HR.out _).mono ?_
  rintro e w94 ⟨g95, rfl, hf, hb⟩
  have HB94 := Lib.hid (HB93.out.trans (hb.mono HB93.out.size))
  clear hb HB93
  have F96 := Lib.hid hf
  clear hf
  go_wp2_with fail
  refine (Cf3.out _ _ _ F96.out (isFlds_nil _)).mono ?_
  rintro e w97 ⟨rfl, hb⟩
  have HB97 := Lib.hid (HB94.out.trans (hb.mono HB94.out.size))
  have F98 := Lib.hid (isFlds_below F96.out hb)
  clear hb HB94 F96
  clear F98
  go_wp2_with fail
  go_ret
  exact ⟨rfl, HB97.out⟩
end Tk
end Go.Proofs.YtapnlopeipdjmaaDoor
