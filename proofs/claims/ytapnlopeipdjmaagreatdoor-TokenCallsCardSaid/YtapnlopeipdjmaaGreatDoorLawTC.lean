/- The law TokenCalls: its walk. -/
import Derived.Test.YtapnlopeipdjmaaGreatDoorRefUq
import Derived.Test.YtapnlopeipdjmaaGreatDoorRefSp
import Derived.Test.YtapnlopeipdjmaaGreatDoorRefU
import Derived.Test.YtapnlopeipdjmaaGreatDoorRSm
import Derived.Test.YtapnlopeipdjmaaGreatDoorChZ
import Derived.Test.YtapnlopeipdjmaaGreatDoorTokE
import Derived.Test.YtapnlopeipdjmaaGreatDoorTokC
import Derived.Test.YtapnlopeipdjmaaGreatDoorSame
import Derived.Test.YtapnlopeipdjmaaGreatDoorNum
import Derived.Test.YtapnlopeipdjmaaGreatDoorLives
namespace Go.Proofs.YtapnlopeipdjmaaGreatDoor
open Go.RowKit
namespace Tk
open Ff

theorem own_laterC {w w' : World} {B : Nat} {v : Value} {n : Nat} {xs : List Value} {e : TypeId} (h : w.ownsRow B e 1 v n xs) (hb : Below w.heap.size w w') : w'.ownsRow B e 1 v n xs :=
  World.ownsRow.kept h (row := none) ⟨hb.os, hb.tape, hb.output, hb.size, fun k hk _ => hb.block k hk⟩ (by cases h : v.ownBlock <;> simp)
theorem same_refl (w : World) : Below w.heap.size w w := Below.refl _ _
theorem drew_below (w : World) (n : Nat) : Below w.heap.size w (w.drewN n) := ⟨rfl, rfl, rfl, Nat.le_refl _, fun _ _ => rfl⟩

def quT (l : Bs) : Bs := if allL 1 l then quoteL l else []
def quC (l : Bs) : Int := if allL 1 l then 0 else 4
def TwoIs (f : FuncId) (a : Array Value) (x : ByteArray) (e : Int) : Prop := ∀ W : World, Calls Tryz.prog f a W fun r w' => r = .returned (.tuple #[.string x, .int .i64 e]) ∧ Below W.heap.size W w'
def ValIs (f : FuncId) (a : Array Value) (x : Value) : Prop := ∀ W : World, Calls Tryz.prog f a W fun r w' => r = .returned x ∧ Below W.heap.size W w'
theorem qu_is (s : ByteArray) (h : s.size ≤ 200) : TwoIs 5 #[.string s] (mkS (quT (bs s))) (quC (bs s)) := fun W => by
  unfold quT quC
  cases ha : allL 1 (bs s)
  · exact quote_bad s W (by omega) ha
  · exact quote_ok s W (by omega) ha
theorem rqu_is (s : ByteArray) (h : s.size ≤ 200) : TwoIs 6 #[.string s] (mkS (quT (bs s))) (quC (bs s)) := fun W => by
  unfold quT quC
  cases ha : allL 1 (bs s)
  · exact rquote_bad s W (by omega) ha
  · exact rquote_ok s W (by omega) ha
theorem un_is (s : ByteArray) (h : s.size ≤ 200) : TwoIs 7 #[.string s] (mkS (uqT (bs s))) (uqC (bs s)) := fun W => by
  unfold uqT uqC
  cases ha : unqOk (bs s)
  · exact unquote_no s W (by omega) ha
  · exact unquote_yes s W (by omega) ha
theorem run_is (s : ByteArray) (h : s.size ≤ 200) : TwoIs 8 #[.string s] (mkS (uqT (bs s))) (uqC (bs s)) := fun W => runquote_any s W (by omega)

theorem nu_is (s : ByteArray) (h : s.size ≤ 200) : ValIs 9 #[.string s] (.tuple #[.int .i64 (numL (bs s)).1, .int .i64 (numL (bs s)).2]) := fun W => (number_any s W (by omega)).mono fun _ _ h => ⟨h.1, h.2 ▸ same_refl _⟩
theorem rnu_is (s : ByteArray) (h : s.size ≤ 200) : ValIs 10 #[.string s] (.tuple #[.int .i64 (numL (bs s)).1, .int .i64 (numL (bs s)).2]) := fun W => (rnumber_any s W (by omega)).mono fun _ _ h => ⟨h.1, h.2 ▸ same_refl _⟩
theorem tc_is (c : UInt8) : ValIs 11 #[.int .u8 (c.toNat : Int)] (.bool (decide (2 ≤ kindOf c.toNat))) := fun W => tchz_any c W
theorem rtc_is (c : UInt8) : ValIs 12 #[.int .u8 (c.toNat : Int)] (.bool (decide (2 ≤ kindOf c.toNat))) := fun W => (rTchar_any c W).mono fun _ _ h => ⟨h.1, h.2 ▸ same_refl _⟩
theorem ch_is (c : UInt8) : ValIs 13 #[.int .u8 (c.toNat : Int)] (.bool (decide (1 ≤ kindOf c.toNat))) := fun W => chz_any c W
theorem rch_is (c : UInt8) : ValIs 14 #[.int .u8 (c.toNat : Int)] (.bool (decide (1 ≤ kindOf c.toNat))) := fun W => (rChar_any c W).mono fun _ _ h => ⟨h.1, h.2 ▸ same_refl _⟩
theorem tk_is (s : ByteArray) (h : s.size ≤ 200) : ValIs 15 #[.string s] (.bool (tokL (bs s))) := fun W => token_any s W (by omega)
theorem rtk_is (s : ByteArray) (h : s.size ≤ 200) : ValIs 16 #[.string s] (.bool (tokL (bs s))) := fun W => (rToken_any s W (by omega)).mono fun _ _ h => ⟨h.1, h.2 ▸ same_refl _⟩
theorem lo_is (s : ByteArray) (h : s.size ≤ 200) : ValIs 17 #[.string s] (.string (mkS (lowL (bs s)))) := fun W => tlower_any s W (by omega)
theorem rlo_is (s : ByteArray) (h : s.size ≤ 200) : ValIs 18 #[.string s] (.string (mkS (lowL (bs s)))) := fun W => refLower_any s W (by omega)
theorem sa_is (s t : ByteArray) (h : s.size ≤ 200) (h2 : t.size ≤ 200) : ValIs 19 #[.string s, .string t] (.bool (decide (lowL (bs s) = lowL (bs t)))) := fun W => (tsame_any s t W (by omega) (by omega)).mono fun _ _ ⟨h, n, e⟩ => ⟨h, e ▸ drew_below _ n⟩
theorem rsa_is (s t : ByteArray) (h : s.size ≤ 200) (h2 : t.size ≤ 200) : ValIs 20 #[.string s, .string t] (.bool (decide (lowL (bs s) = lowL (bs t)))) := fun W => rsm_any s t W (by omega) (by omega)
theorem tr_is (s : ByteArray) (h : s.size ≤ 200) : ValIs 21 #[.string s] (.string (mkS (trimL (bs s)))) := fun W => trim_any s W (by omega)
theorem rtr_is (s : ByteArray) (h : s.size ≤ 200) : ValIs 22 #[.string s] (.string (mkS (trimL (bs s)))) := fun W => (rTrim_any s W (by omega)).mono fun _ _ h => ⟨h.1, h.2 ▸ same_refl _⟩

set_option maxRecDepth 100000 in
set_option maxHeartbeats 4000000 in
theorem tcalls_big (s t : ByteArray) (c : UInt8) (w : World) (hT : Tabs w) (h : ¬ s.size ≤ 200 ∨ (s.size ≤ 200 ∧ ¬ t.size ≤ 200)) :
    Calls Tryz.prog 3 #[.string s, .string t, .int .u8 (c.toNat : Int)] w (Yes w) := by
  have HL := Lib.hid (lives_any w hT)
  unfold Yes at HL ⊢
  clear hT
  rcases h with h | ⟨h0, h⟩
  all_goals
    go_enter Tryz.func3, Tryz.ntmps3
    go_wp2_with fail
    refine HL.out.mono ?_
    rintro e w1 ⟨rfl, hb⟩
    have HB := Lib.hid hb
    clear hb
    go_wp2_with fail
    go_ret
    exact ⟨rfl, HB.out⟩

set_option maxRecDepth 100000 in
set_option maxHeartbeats 32000000 in
theorem tcalls_main (s t : ByteArray) (c : UInt8) (w : World) (hT : Tabs w) (hs : s.size ≤ 200) (ht : t.size ≤ 200) :
    Calls Tryz.prog 3 #[.string s, .string t, .int .u8 (c.toNat : Int)] w (Yes w) := by
  have HL := Lib.hid (lives_any w hT)
  unfold Yes at HL ⊢
  clear hT
  have c_qu := qu_is s hs
  have c_rqu := rqu_is s hs
  have c_un := un_is s hs
  have c_run := run_is s hs
  have c_nu := nu_is s hs
  have c_rnu := rnu_is s hs
  have c_tc := tc_is c
  have c_rtc := rtc_is c
  have c_ch := ch_is c
  have c_rch := rch_is c
  have c_tk := tk_is s hs
  have c_rtk := rtk_is s hs
  have c_lo := lo_is s hs
  have c_rlo := rlo_is s hs
  have c_sa := sa_is s t hs ht
  have c_rsa := rsa_is s t hs ht
  have c_tr := tr_is s hs
  have c_rtr := rtr_is s hs
  unfold TwoIs at c_qu c_rqu c_un c_run
  unfold ValIs at c_nu c_rnu c_tc c_rtc c_ch c_rch c_tk c_rtk c_lo c_rlo c_sa c_rsa c_tr c_rtr
  have C_qu := Lib.hid c_qu
  have C_rqu := Lib.hid c_rqu
  have C_un := Lib.hid c_un
  have C_run := Lib.hid c_run
  have C_nu := Lib.hid c_nu
  have C_rnu := Lib.hid c_rnu
  have C_tc := Lib.hid c_tc
  have C_rtc := Lib.hid c_rtc
  have C_ch := Lib.hid c_ch
  have C_rch := Lib.hid c_rch
  have C_tk := Lib.hid c_tk
  have C_rtk := Lib.hid c_rtk
  have C_lo := Lib.hid c_lo
  have C_rlo := Lib.hid c_rlo
  have C_sa := Lib.hid c_sa
  have C_rsa := Lib.hid c_rsa
  have C_tr := Lib.hid c_tr
  have C_rtr := Lib.hid c_rtr
  clear c_qu c_rqu c_un c_run c_nu c_rnu c_tc c_rtc c_ch c_rch c_tk c_rtk c_lo c_rlo c_sa c_rsa c_tr c_rtr
  have C_sp := Lib.hid (fun W : World => split_any s W (by omega))
  have C_rsp := Lib.hid (fun W : World => rSplit_any s W (by omega))
  unfold ListPost at C_sp C_rsp
  have hlen := split_len (bs s)
  rw [length_bs] at hlen
  have hl2 : (splitL (bs s)).length ≤ 1099511627776 := by omega
  clear hlen
  generalize mkS (quT (bs s)) = x1 at *
  generalize quC (bs s) = e1 at *
  generalize mkS (uqT (bs s)) = x2 at *
  generalize uqC (bs s) = e2 at *
  generalize ((numL (bs s)).1 : Int) = x3 at *
  generalize ((numL (bs s)).2 : Int) = e3 at *
  generalize decide (2 ≤ kindOf c.toNat) = d1 at *
  generalize decide (1 ≤ kindOf c.toNat) = d2 at *
  generalize tokL (bs s) = d3 at *
  generalize mkS (lowL (bs s)) = x4 at *
  generalize decide (lowL (bs s) = lowL (bs t)) = d4 at *
  generalize mkS (trimL (bs s)) = x5 at *
  generalize splitL (bs s) = l at *
  go_enter Tryz.func3, Tryz.ntmps3
  go_wp2_with fail
  refine HL.out.mono ?_
  rintro e w0 ⟨rfl, hb⟩
  have HB0 := Lib.hid hb
  clear hb HL
  go_wp2_with fail
  refine (C_qu.out _).mono ?_
  rintro e w1 ⟨rfl, hb⟩
  have HB1 := Lib.hid (HB0.out.trans (hb.mono HB0.out.size))
  clear hb HB0 C_qu
  go_wp2_with fail
  refine (C_rqu.out _).mono ?_
  rintro e w2 ⟨rfl, hb⟩
  have HB2 := Lib.hid (HB1.out.trans (hb.mono HB1.out.size))
  clear hb HB1 C_rqu
  go_wp2_with fail
  refine (C_un.out _).mono ?_
  rintro e w3 ⟨rfl, hb⟩
  have HB3 := Lib.hid (HB2.out.trans (hb.mono HB2.out.size))
  clear hb HB2 C_un
  go_wp2_with fail
  refine (C_run.out _).mono ?_
  rintro e w4 ⟨rfl, hb⟩
  have HB4 := Lib.hid (HB3.out.trans (hb.mono HB3.out.size))
  clear hb HB3 C_run
  go_wp2_with fail
  refine (C_nu.out _).mono ?_
  rintro e w5 ⟨rfl, hb⟩
  have HB5 := Lib.hid (HB4.out.trans (hb.mono HB4.out.size))
  clear hb HB4 C_nu
  go_wp2_with fail
  refine (C_rnu.out _).mono ?_
  rintro e w6 ⟨rfl, hb⟩
  have HB6 := Lib.hid (HB5.out.trans (hb.mono HB5.out.size))
  clear hb HB5 C_rnu
  go_wp2_with fail
  refine (C_tc.out _).mono ?_
  rintro e w7 ⟨rfl, hb⟩
  have HB7 := Lib.hid (HB6.out.trans (hb.mono HB6.out.size))
  clear hb HB6 C_tc
  go_wp2_with fail
  refine (C_rtc.out _).mono ?_
  rintro e w8 ⟨rfl, hb⟩
  have HB8 := Lib.hid (HB7.out.trans (hb.mono HB7.out.size))
  clear hb HB7 C_rtc
  go_wp2_with fail
  refine (C_ch.out _).mono ?_
  rintro e w9 ⟨rfl, hb⟩
  have HB9 := Lib.hid (HB8.out.trans (hb.mono HB8.out.size))
  clear hb HB8 C_ch
  go_wp2_with fail
  refine (C_rch.out _).mono ?_
  rintro e w10 ⟨rfl, hb⟩
  have HB10 := Lib.hid (HB9.out.trans (hb.mono HB9.out.size))
  clear hb HB9 C_rch
  go_wp2_with fail
  refine (C_tk.out _).mono ?_
  rintro e w11 ⟨rfl, hb⟩
  have HB11 := Lib.hid (HB10.out.trans (hb.mono HB10.out.size))
  clear hb HB10 C_tk
  go_wp2_with fail
  refine (C_rtk.out _).mono ?_
  rintro e w12 ⟨rfl, hb⟩
  have HB12 := Lib.hid (HB11.out.trans (hb.mono HB11.out.size))
  clear hb HB11 C_rtk
  go_wp2_with fail
  refine (C_lo.out _).mono ?_
  rintro e w13 ⟨rfl, hb⟩
  have HB13 := Lib.hid (HB12.out.trans (hb.mono HB12.out.size))
  clear hb HB12 C_lo
  go_wp2_with fail
  refine (C_rlo.out _).mono ?_
  rintro e w14 ⟨rfl, hb⟩
  have HB14 := Lib.hid (HB13.out.trans (hb.mono HB13.out.size))
  clear hb HB13 C_rlo
  go_wp2_with fail
  refine (C_sa.out _).mono ?_
  rintro e w15 ⟨rfl, hb⟩
  have HB15 := Lib.hid (HB14.out.trans (hb.mono HB14.out.size))
  clear hb HB14 C_sa
  go_wp2_with fail
  refine (C_rsa.out _).mono ?_
  rintro e w16 ⟨rfl, hb⟩
  have HB16 := Lib.hid (HB15.out.trans (hb.mono HB15.out.size))
  clear hb HB15 C_rsa
  go_wp2_with fail
  refine (C_tr.out _).mono ?_
  rintro e w17 ⟨rfl, hb⟩
  have HB17 := Lib.hid (HB16.out.trans (hb.mono HB16.out.size))
  clear hb HB16 C_tr
  go_wp2_with fail
  refine (C_rtr.out _).mono ?_
  rintro e w18 ⟨rfl, hb⟩
  have HB18 := Lib.hid (HB17.out.trans (hb.mono HB17.out.size))
  clear hb HB17 C_rtr
  go_wp2_with fail
  refine (C_sp.out _).mono ?_
  rintro e wa ⟨va, rfl, ho, hb⟩
  have HBa := Lib.hid (HB18.out.trans (hb.mono HB18.out.size))
  have HOa := Lib.hid ho
  obtain ⟨aa, ca, rfl⟩ : ∃ a c, va = .slice a l.length c := by obtain ⟨a, c, h, -⟩ := isStrs_own ho; exact ⟨a, c, h⟩
  clear hb ho HB18 C_sp
  go_wp2_with fail
  refine (C_rsp.out _).mono ?_
  rintro e wb ⟨vb, rfl, ho, hb⟩
  have HBb := Lib.hid (HBa.out.trans (hb.mono HBa.out.size))
  have h1 := isStrs_own (own_laterC HOa.out hb)
  have h2 := isStrs_own ho
  obtain ⟨ab, cb, rfl⟩ : ∃ a c, vb = .slice a l.length c := by obtain ⟨a, c, h, -⟩ := isStrs_own ho; exact ⟨a, c, h⟩
  have hsm := same_any _ _ l l wb h1 h2 hl2 hl2
  rw [decide_eq_true rfl] at hsm
  have HSm := Lib.hid hsm
  clear hb ho HBa HOa C_rsp h1 h2 hsm
  go_wp2_with fail
  refine HSm.out.mono ?_
  rintro e wc ⟨rfl, n, rfl⟩
  have HBc := Lib.hid (HBb.out.trans ((drew_below wb n).mono HBb.out.size))
  clear HSm HBb
  go_wp2_with fail
  go_ret
  exact ⟨by first | rfl | simp, HBc.out⟩

theorem tcalls_any (s t : ByteArray) (c : UInt8) (w : World) (hT : Tabs w) :
    Calls Tryz.prog 3 #[.string s, .string t, .int .u8 (c.toNat : Int)] w (Yes w) := by
  by_cases hs : s.size ≤ 200
  · by_cases ht : t.size ≤ 200
    · exact tcalls_main s t c w hT hs ht
    · exact tcalls_big s t c w hT (.inr ⟨hs, ht⟩)
  · exact tcalls_big s t c w hT (.inl hs)
end Tk
end Go.Proofs.YtapnlopeipdjmaaGreatDoor
