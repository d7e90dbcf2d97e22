/- etag.named: the closure, slices.IndexFunc, slices.ContainsFunc over it. -/
import Derived.Test.YtajmheblbnodjaaDoorEtB
namespace Go.Proofs.YtajmheblbnodjaaDoor
open Go.RowKit
namespace Tk

/-- checks: a tag, whether there is one, a time, whether there is one -/
structure Ck where
  w : Bool
  v : Bs
  h : Bool
  a : Int
  b : Bool
def ckA (c : Ck) : Array Value := #[.bool c.w, .string (mkS c.v), .bool c.h, .int .i64 c.a, .bool c.b]
def ckV (c : Ck) : Value := .agg (ckA c)
/-- do the values of If-None-Match name what has these checks? -/
def nmdB (L : List Bs) (c : Ck) : Bool := decide (tagsE (prtL L) = 0) && (tagsS (prtL L) || (c.h && (tagsL (prtL L)).any fun t => wkB t (c.w, c.v)))

/-- the function value that named hands to slices.ContainsFunc -/
def weakV (g : Nat) : Value := .func (.func 78) #[] #[.pointer (some ⟨g, 0, none⟩)]

set_option maxHeartbeats 2000000 in
set_option maxRecDepth 100000 in
theorem tnamed1_any (g : Nat) (c : Ck) (t : Tg) (w : World) (hc : Bx w g 62 (ckA c)) :
    Calls Tryd.prog 78 #[tgVal t, .pointer (some ⟨g, 0, none⟩)] w fun e w' => e = .returned (.bool (wkB t (c.w, c.v))) ∧ Below w.heap.size w w' := by
  obtain ⟨tk, tv⟩ := t
  have hb0 : Below w.heap.size w (w.alloc (.cells #[.bool tk, .string (mkS tv)] 36)) := (Below.refl _ _).alloc (Nat.le_refl _) _
  have hT := Two.new w 36 (.bool tk) (.string (mkS tv))
  have a0 := hT.c0
  have a1 := hT.c1
  have c0 := (hc.later hb0).cell 0 _ rfl
  have c1 := (hc.later hb0).cell 1 _ rfl
  have HW := Lib.hid (fun W : World => weak_any (tk, tv) (c.w, c.v) W)
  have HB0 := Lib.hid hb0
  have hsz : w.heap.size ≤ (w.alloc (.cells #[.bool tk, .string (mkS tv)] 36)).heap.size := by simp
  clear hb0 hT hc
  unfold tgVal at *
  generalize wkB (tk, tv) (c.w, c.v) = q at *
  go_enter Tryd.func78, Tryd.ntmps78
  go_wp2_with fail
  generalize w.alloc (.cells #[.bool tk, .string (mkS tv)] 36) = W at *
  refine (HW.out _).mono ?_
  rintro e w1 ⟨rfl, hb⟩
  have HB1 := Lib.hid (HB0.out.trans (hb.mono hsz))
  clear hb
  go_wp2_with fail
  go_ret
  exact ⟨rfl, HB1.out⟩

def idxT (p : Tg → Bool) (l : List Tg) : Int := if l.findIdx p < l.length then (l.findIdx p : Int) else -1
theorem idxT_hit (p : Tg → Bool) (l : List Tg) (i : Nat) (hi : i < l.length) (h1 : ∀ f ∈ l.take i, p f = false) (h2 : p (l.getD i (false, [])) = true) : l.findIdx p = i := by
  rw [List.findIdx_eq hi]
  refine ⟨by simpa [List.getD, hi] using h2, fun j hj => ?_⟩
  refine h1 _ ?_
  rw [List.mem_take_iff_getElem]
  exact ⟨j, by omega, rfl⟩
theorem idxT_no (p : Tg → Bool) (l : List Tg) (h1 : ∀ f ∈ l, p f = false) : l.findIdx p = l.length := by
  rw [List.findIdx_eq_length]; exact h1
theorem idxT_any (p : Tg → Bool) (l : List Tg) : decide (0 ≤ idxT p l) = l.any p := by
  unfold idxT
  by_cases h : l.findIdx p < l.length
  · rw [if_pos h, decide_eq_true (by omega)]
    have h2 := List.findIdx_getElem (w := h)
    exact (List.any_eq_true.2 ⟨_, List.getElem_mem h, h2⟩).symm
  · rw [if_neg h]
    have h3 : l.findIdx p = l.length := by
      have := List.findIdx_le_length (p := p) (xs := l); omega
    rw [List.findIdx_eq_length] at h3
    rw [show decide ((0 : Int) ≤ -1) = false by decide]
    symm
    rw [List.any_eq_false]
    intro x hx
    rw [h3 x hx]; simp

set_option maxHeartbeats 4000000 in
set_option maxRecDepth 100000 in
theorem indexT_any (v : Value) (g : Nat) (c : Ck) (l : List Tg) (w : World) (hs : IsTgs w v l) (hg : Bx w g 62 (ckA c)) (hl : l.length ≤ 1048576) :
    Calls Tryd.prog 92 #[v, weakV g] w fun e w' => e = .returned (.int .i64 (idxT (fun t => wkB t (c.w, c.v)) l)) ∧ Below w.heap.size w w' := by
  have HS := Lib.hid hs
  have HG := Lib.hid hg
  have HN := Lib.hid (fun (t : Tg) (W : World) hW => tnamed1_any g c t W hW)
  obtain ⟨a, cap, rfl⟩ : ∃ a cap, v = .slice a l.length cap := by obtain ⟨a, c, h, -⟩ := hs; exact ⟨a, c, h⟩
  clear hs hg
  obtain ⟨p, hp⟩ : ∃ p : Tg → Bool, p = fun t => wkB t (c.w, c.v) := ⟨_, rfl⟩
  rw [← hp]
  have HP : Hid (∀ t : Tg, p t = wkB t (c.w, c.v)) := fun t => by rw [hp]
  clear hp
  have HIH := Lib.hid (fun i hi h1 h2 => idxT_hit p l i hi h1 h2)
  have HIN := Lib.hid (idxT_no p l)
  have HID : Hid (idxT p l = if l.findIdx p < l.length then (l.findIdx p : Int) else -1) := rfl
  generalize idxT p l = q at *
  unfold weakV
  go_enter Tryd.func92, Tryd.ntmps92
  go_wp2_with fail
  go_loopw [5, 8] (fun _ vi wr => ∃ i : Nat, i ≤ l.length ∧ vi = .int .i64 i ∧ Hid (∀ f ∈ l.take i, p f = false) ∧ Hid (Below w.heap.size w wr)) (fun _ vi _ => l.length - (RowKit.intOf vi).toNat)
  case atStart => exact ⟨0, Nat.zero_le _, rfl, fun f hf => by simp at hf, Below.refl _ _⟩
  case round =>
    obtain ⟨i, hi, rfl, HA, HB⟩ := hrel
    rename World => W
    by_cases hlt : i < l.length
    · obtain ⟨a', c', e', hcap, hc⟩ := isTgs_below HS.out HB.out
      injection e' with e1 _ e2
      subst e1 e2
      obtain ⟨b, o, rfl, hc0, hc1⟩ := hc i (l.getD i (false, [])) (by simp [List.getD, hlt])
      have hhit := HIH.out i hlt HA.out
      have htk : l.take (i + 1) = l.take i ++ [l.getD i (false, [])] := by
        rw [List.take_succ_eq_append_getElem hlt]; simp [List.getD, hlt]
      have HTK := Lib.hid htk
      have HHit := Lib.hid hhit
      clear hc htk hhit
      generalize l.getD i (false, []) = f at *
      have HC := HN.out f W (HG.out.later HB.out)
      rw [← HP.out] at HC
      obtain ⟨n, x⟩ := f
      simp only at hc0 hc1
      unfold tgVal at HC
      have g0 : (0 : Int) ≤ (i : Int) := by omega
      have g1 : (i : Int) < (l.length : Int) := by omega
      cases hk : p (n, x)
      · rw [hk] at HC
        have HA2 : Hid (∀ f ∈ l.take (i + 1), p f = false) := by
          intro f hf
          rw [HTK.out, List.mem_append, List.mem_singleton] at hf
          rcases hf with hf | rfl
          · exact HA.out f hf
          · exact hk
        have HC2 := Lib.hid HC
        clear HC hk
        go_wp2_with fail
        refine HC2.out.mono ?_
        rintro e w' ⟨rfl, hb⟩
        have HB2 := Lib.hid (HB.out.trans (hb.mono HB.out.size))
        clear hb
        go_wp2_with fail
        exact ⟨⟨i + 1, hlt, by go_num, HA2, HB2⟩, by simp [RowKit.intOf]; omega⟩
      · rw [hk] at HC
        have hidx : q = (i : Int) := by rw [HID.out, HHit.out hk, if_pos hlt]
        have HX := Lib.hid hidx
        have HC2 := Lib.hid HC
        clear HC hk hidx
        go_wp2_with fail
        refine HC2.out.mono ?_
        rintro e w' ⟨rfl, hb⟩
        have HB2 := Lib.hid (HB.out.trans (hb.mono HB.out.size))
        clear hb
        go_wp2_with fail
        go_ret
        exact ⟨by rw [HX.out]; rfl, HB2.out⟩
    · have hil : l.take i = l := List.take_of_length_le (by omega)
      rw [hil] at HA
      have hidx : q = -1 := by rw [HID.out, HIN.out HA.out, if_neg (by omega)]
      have HX := Lib.hid hidx
      clear hidx hil
      go_wp2_with fail
      go_ret
      exact ⟨by rw [HX.out]; rfl, HB.out⟩

set_option maxHeartbeats 2000000 in
set_option maxRecDepth 100000 in
theorem containsT_any (v : Value) (g : Nat) (c : Ck) (l : List Tg) (w : World) (hs : IsTgs w v l) (hg : Bx w g 62 (ckA c)) (hl : l.length ≤ 1048576) :
    Calls Tryd.prog 77 #[v, weakV g] w fun e w' => e = .returned (.bool (l.any fun t => wkB t (c.w, c.v))) ∧ Below w.heap.size w w' := by
  have HI := Lib.hid (indexT_any v g c l w hs hg hl)
  have HA := Lib.hid (idxT_any (fun t => wkB t (c.w, c.v)) l)
  generalize idxT (fun t => wkB t (c.w, c.v)) l = q at *
  generalize (l.any fun t => wkB t (c.w, c.v)) = r at *
  clear hs hg
  unfold weakV at *
  go_enter Tryd.func77, Tryd.ntmps77
  go_wp2_with fail
  refine HI.out.mono ?_
  rintro e w1 ⟨rfl, hb⟩
  have HB := Lib.hid hb
  clear hb
  go_wp2_with fail
  go_ret
  exact ⟨by rw [← HA.out]; rfl, HB.out⟩

set_option maxHeartbeats 4000000 in
set_option maxRecDepth 100000 in
theorem tnamed_any (v : Value) (L : List Bs) (c : Ck) (w : World) (hs : IsStrs w v L) (hsum : Lib.lens L + L.length ≤ 1000000) :
    Calls Tryd.prog 63 #[v, ckV c] w fun e w' => e = .returned (.bool (nmdB L c)) ∧ Below w.heap.size w w' := by
  have hb0 : Below w.heap.size w (w.alloc (.cells (ckA c) 62)) := (Below.refl _ _).alloc (Nat.le_refl _) _
  have hBx := Bx.new w 62 (ckA c)
  have hT := ttags_any v L _ (isStrs_belowE hs hb0) hsum
  have hpl : (prtL L).length ≤ 1000000 := Nat.le_trans (flat_len L) hsum
  have htl : (tagsL (prtL L)).length ≤ 1048576 := by
    unfold tagsL
    split
    · simp
    · split
      · rw [List.length_map]; omega
      · simp
  have hv : nmdB L c = (decide (tagsE (prtL L) = 0) && (tagsS (prtL L) || (c.h && (tagsL (prtL L)).any fun t => wkB t (c.w, c.v)))) := rfl
  have HV := Lib.hid hv
  unfold TagsPost at hT
  obtain ⟨a, cap, rfl⟩ : ∃ a cap, v = .slice a L.length cap := by obtain ⟨a, c, h, -⟩ := hs; exact ⟨a, c, h⟩
  generalize tagsE (prtL L) = er at *
  generalize tagsS (prtL L) = st at *
  generalize tagsL (prtL L) = tl at *
  generalize nmdB L c = q at *
  have HT := Lib.hid hT
  have HB0 := Lib.hid hb0
  have HBx := Lib.hid hBx
  have hsz : w.heap.size ≤ (w.alloc (.cells (ckA c) 62)).heap.size := by simp
  clear hT hb0 hBx hpl hv hs hsum
  have HCt := Lib.hid (fun (v : Value) (W : World) h1 h2 => containsT_any v w.heap.size c tl W h1 h2 htl)
  clear htl
  generalize (tl.any fun t => wkB t (c.w, c.v)) = r at *
  obtain ⟨cw, cv, ch, ca, cb⟩ := c
  unfold ckV ckA at *
  simp only at *
  by_cases he : er = 0
  · subst he
    cases st
    · go_enter Tryd.func63, Tryd.ntmps63
      go_wp2_with fail
      refine HT.out.mono ?_
      rintro e w1 ⟨v1, rfl, ho, hb⟩
      have hB1 := HBx.out.later hb
      have c2 := hB1.cell 2 _ rfl
      have HB1 := Lib.hid (HB0.out.trans (hb.mono hsz))
      have HC1 := Lib.hid (HCt.out v1 w1 (isTgs_own ho) hB1)
      have HL := Lib.hid HB1.out.size
      clear hB1 ho hb
      cases ch
      · have HQ : Hid (q = false) := by show _ = _; rw [HV.out]; simp
        clear HV
        go_wp2_with fail
        go_ret
        exact ⟨by rw [HQ.out]; rfl, HB1.out⟩
      · have HQ : Hid (q = r) := by show _ = _; rw [HV.out]; simp
        clear HV
        unfold weakV at HC1
        go_wp2_with fail
        refine HC1.out.mono ?_
        rintro e w2 ⟨rfl, hb⟩
        have HB2 := Lib.hid (HB1.out.trans (hb.mono HL.out))
        clear hb
        go_wp2_with fail
        go_ret
        exact ⟨by rw [HQ.out]; rfl, HB2.out⟩
    · have HQ : Hid (q = true) := by show _ = _; rw [HV.out]; simp
      clear HV
      go_enter Tryd.func63, Tryd.ntmps63
      go_wp2_with fail
      refine HT.out.mono ?_
      rintro e w1 ⟨v1, rfl, ho, hb⟩
      have HB1 := Lib.hid (HB0.out.trans (hb.mono hsz))
      clear ho hb
      go_wp2_with fail
      go_ret
      exact ⟨by rw [HQ.out]; rfl, HB1.out⟩
  · have HQ : Hid (q = false) := by show _ = _; rw [HV.out, decide_eq_false he]; simp
    have e1 : ((er : Int) == 0) = false := by rw [beq_eq_false_iff_ne]; exact he
    have e2 : ((er : Int) != 0) = true := by unfold bne; rw [e1]; rfl
    clear HV he
    go_enter Tryd.func63, Tryd.ntmps63
    go_wp2_with fail
    refine HT.out.mono ?_
    rintro e w1 ⟨v1, rfl, ho, hb⟩
    have HB1 := Lib.hid (HB0.out.trans (hb.mono hsz))
    clear ho hb
    go_wp2_with fail
    go_ret
    exact ⟨by rw [HQ.out]; rfl, HB1.out⟩
end Tk
end Go.Proofs.YtajmheblbnodjaaDoor
