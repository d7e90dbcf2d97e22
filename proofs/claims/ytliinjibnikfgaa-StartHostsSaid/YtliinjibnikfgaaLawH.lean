/- The law StartHosts: its walk. -/
import Derived.Test.YtliinjibnikfgaaStaL
import Derived.Test.YtliinjibnikfgaaRefL
namespace Go.Proofs.Ytliinjibnikfgaa
open Go.RowKit
namespace Tk

/-- what the law asks of a name: no colon, or the first byte a bracket -/
def noCol (n : ByteArray) : Prop := (∀ x ∈ bs n, x ≠ (58 : UInt8)) ∨ (bs n).head? = some 91
theorem port_eq (q : ByteArray) : portOk (bs q) = (decide (q.size ≤ 5) && (bs q).all isDig) := by unfold portOk; rw [length_bs]

set_option maxRecDepth 100000 in
set_option maxHeartbeats 2000000 in
theorem hosts_big (n q : ByteArray) (w : World) (h : ¬ n.size ≤ 100 ∨ (n.size ≤ 100 ∧ ¬ q.size ≤ 100)) :
    Calls Try.prog 5 #[.string n, .string q] w (Yes3 w) := by
  have HL := Lib.hid (lives03_any w)
  rcases h with h | ⟨h0, h⟩
  all_goals
    go_enter Try.func5, Try.ntmps5
    go_wp2_with fail
    refine HL.out.mono ?_
    rintro e w1 ⟨rfl, hb⟩
    have HB := Lib.hid hb
    clear hb
    go_wp2_with fail
    go_ret
    exact ⟨rfl, HB.out⟩

def digAt (q : ByteArray) (i : Nat) : Bool := decide (q.size ≤ 5) && ((bs q).take i).all isDig

theorem digAt_end (q : ByteArray) : digAt q q.size = portOk (bs q) := by
  unfold digAt
  rw [port_eq, List.take_of_length_le (by rw [length_bs]; exact Nat.le_refl _)]
theorem digAt_next (q : ByteArray) (i : Nat) (h : i < q.size) : digAt q (i + 1) = (digAt q i && isDig q[i]) := by
  unfold digAt
  rw [take_snoc (bs q) i (by rw [length_bs]; exact h), List.all_append, getD_bs q i h, Bool.and_assoc]
  simp

set_option maxRecDepth 100000 in
set_option maxHeartbeats 16000000 in
theorem hosts_main (n q : ByteArray) (w : World) (hn : n.size ≤ 100) (hq : q.size ≤ 100) :
    Calls Try.prog 5 #[.string n, .string q] w (Yes3 w) := by
  have HL := Lib.hid (lives03_any w)
  have HH := Lib.hid (fun W => host_any n W (by omega))
  have hcat : bs (n ++ ⟨#[58]⟩ ++ q) = bs n ++ 58 :: bs q := by
    have h1 : n = mkS (bs n) := (mkS_bs n).symm
    have h2 : q = mkS (bs q) := (mkS_bs q).symm
    conv => lhs; rw [h1, h2, show (⟨#[58]⟩ : ByteArray) = mkS [58] from rfl, mkS_append, mkS_append, bs_mkS]
    simp
  have hcz : (n ++ ⟨#[58]⟩ ++ q : ByteArray).size ≤ 201 := by rw [← length_bs, hcat]; simp [length_bs]; omega
  have hhc := fun W => host_any (n ++ ⟨#[58]⟩ ++ q) W (by omega)
  rw [hcat] at hhc
  have HC := Lib.hid hhc
  have hz1 : (n ++ ⟨#[58]⟩ : ByteArray).size ≤ 9223372036854775807 := by rw [ByteArray.size_append]; have : (⟨#[58]⟩ : ByteArray).size = 1 := rfl; omega
  have HR := Lib.hid (fun W => show Calls Try.prog 9 #[.string n] W (fun e w' => e = .returned (.string (mkS (lowL (bs n)))) ∧ Below W.heap.size W w') from refLower_any n W (by omega))
  have hlz : (mkS (lowL (bs n))).size ≤ 100 := by rw [size_mkS, length_lowL, length_bs]; exact hn
  have hhl := fun W => host_any (mkS (lowL (bs n))) W (by omega)
  rw [bs_mkS, host_low] at hhl
  have HLow := Lib.hid hhl
  clear hhc hhl hcat hcz hlz
  go_enter Try.func5, Try.ntmps5
  go_wp2_with fail
  refine HL.out.mono ?_
  rintro e w1 ⟨rfl, hb⟩
  have HB := Lib.hid hb
  clear hb
  go_wp2_with fail
  go_loop [5] (fun vi => ∃ i : Nat, i ≤ n.size ∧ vi = .int .i64 i ∧ Hid ((∀ x ∈ (bs n).take i, x ≠ (58 : UInt8)) ∨ (bs n).head? = some 91)) (fun vi => n.size - (RowKit.intOf vi).toNat)
  case atStart => exact ⟨0, Nat.zero_le _, rfl, .inl (fun x hx => by simp at hx)⟩
  case round =>
    obtain ⟨i, hi, rfl, hI⟩ := hrel
    by_cases hlt : i < n.size
    · have ht := take_snoc (bs n) i (by rw [length_bs]; exact hlt)
      rw [getD_bs n i hlt] at ht
      have HTk := Lib.hid ht
      have hp : 0 < n.size := by omega
      have HHd := Lib.hid (bs_head n hp)
      clear ht
      by_cases hc : n[i] = 58
      · have e1 : ((n[i].toNat : Int) == 58) = true := by rw [hc]; rfl
        by_cases h91 : n[0] = 91
        · have e2 : ((n[0].toNat : Int) != 91) = false := by rw [h91]; rfl
          have hI2 : Hid ((∀ x ∈ (bs n).take (i + 1), x ≠ (58 : UInt8)) ∨ (bs n).head? = some 91) := .inr (by rw [HHd.out, h91])
          clear hc h91
          go_wp2_with fail
          exact ⟨⟨i + 1, by omega, by go_num, hI2⟩, by simp [RowKit.intOf]; omega⟩
        · have e2 : ((n[0].toNat : Int) != 91) = true := by
            rw [bne_iff_ne]
            intro e
            exact h91 (UInt8.toNat_inj.1 (show n[0].toNat = 91 by omega))
          clear hc h91
          go_wp2_with fail
          go_ret
          exact ⟨rfl, HB.out⟩
      · have e1 : ((n[i].toNat : Int) == 58) = false := by
          rw [beq_eq_false_iff_ne]
          intro e
          exact hc (UInt8.toNat_inj.1 (show n[i].toNat = 58 by omega))
        have hI2 : Hid ((∀ x ∈ (bs n).take (i + 1), x ≠ (58 : UInt8)) ∨ (bs n).head? = some 91) := by
          rcases hI.out with h | h
          · left
            intro x hx
            rw [HTk.out, List.mem_append, List.mem_singleton] at hx
            rcases hx with hx | rfl
            · exact h x hx
            · exact hc
          · exact .inr h
        clear hc
        go_wp2_with fail
        exact ⟨⟨i + 1, by omega, by go_num, hI2⟩, by simp [RowKit.intOf]; omega⟩
    · have hI2 : Hid (noCol n) := by
        have := hI.out
        rw [List.take_of_length_le (by rw [length_bs]; omega)] at this
        exact this
      clear hI
      have h5 : Hid (decide ((q.size : Int) ≤ 5) = digAt q 0) := by
        show _ = _
        unfold digAt
        rw [List.take_zero, Bool.eq_iff_iff]
        simp
        omega
      go_wp2_with fail
      go_loop [6, 7] (fun vd vi => ∃ i : Nat, i ≤ q.size ∧ vi = .int .i64 i ∧ vd = .bool (digAt q i)) (fun _ vi => q.size - (RowKit.intOf vi).toNat)
      case atStart => exact ⟨0, Nat.zero_le _, rfl, by rw [← h5.out]⟩
      case round =>
        obtain ⟨i, hi, rfl, rfl⟩ := hrel
        by_cases hlt2 : i < q.size
        · have hnx := digAt_next q i hlt2
          have hdd : isDig q[i] = (decide (48 ≤ q[i].toNat) && decide (q[i].toNat ≤ 57)) := rfl
          rw [hdd] at hnx
          have HNX := Lib.hid hnx
          clear hnx hdd
          cases hd : digAt q i
          · rw [hd] at HNX
            clear hd
            go_wp2_with fail
            exact ⟨⟨i + 1, by omega, by go_num, by rw [HNX.out]; rfl⟩, by simp [RowKit.intOf]; omega⟩
          · rw [hd] at HNX
            clear hd
            by_cases d0 : 48 ≤ q[i].toNat
            · by_cases d1 : q[i].toNat ≤ 57
              · have HN2 := Lib.hid (show digAt q (i + 1) = true by rw [HNX.out, decide_eq_true d0, decide_eq_true d1]; rfl)
                go_wp2_with fail
                exact ⟨⟨i + 1, by omega, by go_num, by rw [HN2.out] <;> first | rfl | (simp; omega)⟩, by simp [RowKit.intOf]; omega⟩
              · have HN2 := Lib.hid (show digAt q (i + 1) = false by rw [HNX.out, decide_eq_false d1]; simp)
                go_wp2_with fail
                exact ⟨⟨i + 1, by omega, by go_num, by rw [HN2.out] <;> first | rfl | (simp; omega)⟩, by simp [RowKit.intOf]; omega⟩
            · have HN2 := Lib.hid (show digAt q (i + 1) = false by rw [HNX.out, decide_eq_false d0]; rfl)
              go_wp2_with fail
              exact ⟨⟨i + 1, by omega, by go_num, by rw [HN2.out] <;> first | rfl | (simp; omega)⟩, by simp [RowKit.intOf]; omega⟩
        · have hiq : i = q.size := by omega
          subst hiq
          rw [digAt_end]
          go_wp2_with fail
          refine (HH.out _).mono ?_
          rintro e w2 ⟨rfl, hb⟩
          have HB2 := Lib.hid (HB.out.trans (hb.mono HB.out.size))
          clear hb
          by_cases hz : n.size = 0
          · have he : n.toList.isEmpty = true := empty_of n hz
            have hnil : bs n = [] := List.eq_nil_of_length_eq_zero (by rw [length_bs]; exact hz)
            have hfin := host_port (bs n) (bs q) hI2.out (fun h => by rw [hnil] at h; cases h)
            have HF := Lib.hid hfin
            clear hfin hnil hz hlt hlt2
            generalize hostL (bs n) = hb0 at *
            generalize portOk (bs q) = pb at *
            generalize hostL (bs n ++ 58 :: bs q) = cb at *
            cases hb0 <;> cases pb <;> cases cb
            all_goals
              first
              | exact absurd HF.out (by decide)
              | (go_wp2_with fail
                 refine (HC.out _).mono ?_
                 rintro e w3 ⟨rfl, hb⟩
                 have HB3 := Lib.hid (HB2.out.trans (hb.mono HB2.out.size))
                 clear hb
                 go_wp2_with fail
                 refine (HR.out _).mono ?_
                 rintro e w4 ⟨rfl, hb⟩
                 have HB4 := Lib.hid (HB3.out.trans (hb.mono HB3.out.size))
                 clear hb
                 go_wp2_with fail
                 refine (HLow.out _).mono ?_
                 rintro e w5 ⟨rfl, hb⟩
                 have HB5 := Lib.hid (HB4.out.trans (hb.mono HB4.out.size))
                 clear hb
                 go_wp2_with fail
                 go_ret
                 exact ⟨rfl, HB5.out⟩)
          · have hp : 0 < n.size := by omega
            have hpl : n.size - 1 < n.size := by omega
            have he : n.toList.isEmpty = false := not_empty_of n hp
            have hhd := bs_head n hp
            have hlast : (bs n).getLast? = some (n[n.size - 1]'hpl) := by
              rw [List.getLast?_eq_getElem?, length_bs, List.getElem?_eq_getElem (by rw [length_bs]; omega)]; rfl
            have k1 : IntKind.i64.wrap ((n.size : Int) - 1) = ((n.size - 1 : Nat) : Int) := by rw [IntWalk.i64_in _ (by omega)]; omega
            by_cases h91 : n[0] = 91
            · have e2 : ((n[0].toNat : Int) == 91) = true := by rw [h91]; rfl
              by_cases h93 : (n[n.size - 1]'hpl) = 93
              · have e3 : (((n[n.size - 1]'hpl).toNat : Int) != 93) = false := by rw [h93]; rfl
                have hfin := host_port (bs n) (bs q) hI2.out (fun _ => by rw [hlast, h93])
                have HF := Lib.hid hfin
                clear hfin h91 h93 hhd hlast hz hlt hlt2
                generalize hostL (bs n) = hb0 at *
                generalize portOk (bs q) = pb at *
                generalize hostL (bs n ++ 58 :: bs q) = cb at *
                cases hb0 <;> cases pb <;> cases cb
                all_goals
                  first
                  | exact absurd HF.out (by decide)
                  | (go_wp2_with fail
                     refine (HC.out _).mono ?_
                     rintro e w3 ⟨rfl, hb⟩
                     have HB3 := Lib.hid (HB2.out.trans (hb.mono HB2.out.size))
                     clear hb
                     go_wp2_with fail
                     refine (HR.out _).mono ?_
                     rintro e w4 ⟨rfl, hb⟩
                     have HB4 := Lib.hid (HB3.out.trans (hb.mono HB3.out.size))
                     clear hb
                     go_wp2_with fail
                     refine (HLow.out _).mono ?_
                     rintro e w5 ⟨rfl, hb⟩
                     have HB5 := Lib.hid (HB4.out.trans (hb.mono HB4.out.size))
                     clear hb
                     go_wp2_with fail
                     go_ret
                     exact ⟨rfl, HB5.out⟩)
              · have e3 : (((n[n.size - 1]'hpl).toNat : Int) != 93) = true := by
                  rw [bne_iff_ne]
                  intro e
                  exact h93 (UInt8.toNat_inj.1 (show (n[n.size - 1]'hpl).toNat = 93 by omega))
                clear h91 h93 hhd hlast hz hlt hlt2
                go_wp2_with fail
                go_ret
                exact ⟨rfl, HB2.out⟩
            · have e2 : ((n[0].toNat : Int) == 91) = false := by
                rw [beq_eq_false_iff_ne]
                intro e
                exact h91 (UInt8.toNat_inj.1 (show n[0].toNat = 91 by omega))
              have hfin := host_port (bs n) (bs q) hI2.out (fun h => by
                rw [hhd] at h
                injection h with h
                exact absurd h h91)
              have HF := Lib.hid hfin
              clear hfin h91 hhd hlast hz hlt hlt2
              generalize hostL (bs n) = hb0 at *
              generalize portOk (bs q) = pb at *
              generalize hostL (bs n ++ 58 :: bs q) = cb at *
              cases hb0 <;> cases pb <;> cases cb
              all_goals
                first
                | exact absurd HF.out (by decide)
                | (go_wp2_with fail
                   refine (HC.out _).mono ?_
                   rintro e w3 ⟨rfl, hb⟩
                   have HB3 := Lib.hid (HB2.out.trans (hb.mono HB2.out.size))
                   clear hb
                   go_wp2_with fail
                   refine (HR.out _).mono ?_
                   rintro e w4 ⟨rfl, hb⟩
                   have HB4 := Lib.hid (HB3.out.trans (hb.mono HB3.out.size))
                   clear hb
                   go_wp2_with fail
                   refine (HLow.out _).mono ?_
                   rintro e w5 ⟨rfl, hb⟩
                   have HB5 := Lib.hid (HB4.out.trans (hb.mono HB4.out.size))
                   clear hb
                   go_wp2_with fail
                   go_ret
                   exact ⟨rfl, HB5.out⟩)

theorem hosts_any (n q : ByteArray) (w : World) :
    Calls Try.prog 5 #[.string n, .string q] w (Yes3 w) := by
  by_cases hn : n.size ≤ 100
  · by_cases hq : q.size ≤ 100
    · exact hosts_main n q w hn hq
    · exact hosts_big n q w (.inr ⟨hn, hq⟩)
  · exact hosts_big n q w (.inl hn)
end Tk
end Go.Proofs.Ytliinjibnikfgaa
