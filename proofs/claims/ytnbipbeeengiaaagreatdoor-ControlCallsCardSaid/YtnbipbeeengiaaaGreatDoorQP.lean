/- RcC, put together. -/
import Derived.Test.YtnbipbeeengiaaaGreatDoorQL
import Derived.Test.YtnbipbeeengiaaaGreatDoorQM
import Derived.Test.YtnbipbeeengiaaaGreatDoorQN
import Derived.Test.YtnbipbeeengiaaaGreatDoorQO
import Derived.Deep.Cut
import Derived.RegionTactic
namespace Go.Proofs.YtnbipbeeengiaaaGreatDoor
open Go.RowKit
namespace Tk

theorem low_kindR (c : UInt8) : decide (2 ≤ kindOf (lowB c).toNat) = decide (2 ≤ kindOf c.toNat) := by
  have : ∀ n : Nat, n < 256 → decide (2 ≤ kindOf (lowB (UInt8.ofNat n)).toNat) = decide (2 ≤ kindOf (UInt8.ofNat n).toNat) := by decide +kernel
  have h2 := this c.toNat c.toNat_lt
  rwa [UInt8.ofNat_toNat] at h2
theorem tok_lowR (n : Bs) : tokL (lowL n) = tokB n := by
  unfold tokL tokB allL lowL
  rw [List.all_map]
  congr 1
  · cases n <;> rfl
  · congr 1
    funext c
    exact low_kindR c
/-- the directive that a part says, whatever its name -/
def dirR (p : Bs) : Dir := (lowL (cutL 61 p).1, unqT (cutL 61 p).2.1, (cutL 61 p).2.2)
theorem dirOf_eq (p : Bs) : dirOf p = if tokB (cutL 61 p).1 = true then [dirR p] else [] := rfl
theorem cut61_at (s : Bs) (i : Nat) (hi : i < s.length) (h : s.getD i 0 = 61) (hb : ∀ x ∈ s.take i, x ≠ 61) : cutL 61 s = (s.take i, s.drop (i + 1), true) := by
  have e : s = s.take i ++ [61] ++ s.drop (i + 1) := by
    have h1 := List.take_append_drop i s
    have h2 : s.drop i = s.getD i 0 :: s.drop (i + 1) := by rw [List.drop_eq_getElem_cons hi]; simp [List.getD, hi]
    rw [h2, h] at h1
    simp only [List.append_assoc, List.singleton_append]
    exact h1.symm
  have k := ccut_at 61 (s.take i) (s.drop (i + 1)) hb
  rw [← e] at k
  exact k
theorem dirR_hit (s : Bs) (i : Nat) (hi : i < s.length) (h : s.getD i 0 = 61) (hb : ∀ x ∈ s.take i, x ≠ 61) : dirR s = (lowL (s.take i), unqT (s.drop (i + 1)), true) ∧ tokB (cutL 61 s).1 = tokL (lowL (s.take i)) := by
  unfold dirR
  rw [cut61_at s i hi h hb, tok_lowR]
  exact ⟨rfl, rfl⟩
theorem dirR_miss (s : Bs) (hb : ∀ x ∈ s, x ≠ 61) : dirR s = (lowL s, [], false) ∧ tokB (cutL 61 s).1 = tokL (lowL s) := by
  unfold dirR
  rw [ccut_none 61 s hb, tok_lowR]
  exact ⟨rfl, rfl⟩
def dcells (D : List Dir) : List Value := D.flatMap fun d => [.string (mkS d.1), .string (mkS d.2.1), .bool d.2.2]
theorem dcells_app (a b : List Dir) : dcells (a ++ b) = dcells a ++ dcells b := by simp [dcells]
theorem dirInfo : (Tryz.prog.info? 71).map (fun i => (i.zero, i.size, i.bytes)) = some (some (.agg #[.string .empty, .string .empty, .bool false]), 3, 40) := by kernel_rfl
theorem dir_size (a b c : Value) : (Tryz.prog.info? 71).map (·.size) = some (#[a, b, c] : Array Value).size := by kernel_rfl
theorem cell_three_new (w : World) (x y z : Value) (t : TypeId) : ∀ j u, [x, y, z][j]? = some u → (w.alloc (.cells #[x, y, z] t)).cell? ((⟨w.heap.size, 0, none⟩ : Addr).add j) = some u := by
  intro j u hj
  match j, hj with
  | 0, hj => simp at hj; subst hj; simp [Addr.add]
  | 1, hj => simp at hj; subst hj; simp [Addr.add]
  | 2, hj => simp at hj; subst hj; simp [Addr.add]
theorem own_laterD {w w' : World} {B n k : Nat} {v : Value} {xs : List Value} {e : TypeId} (h : w.ownsRow B e k v n xs) (hb : Below w.heap.size w w') : w'.ownsRow B e k v n xs :=
  own_sameC h fun g hg => hb.block g (h.lt g hg).2
theorem rows_neD {w : World} {B1 B2 n1 n2 k1 k2 : Nat} {e1 e2 : TypeId} {v1 v2 : Value} {x1 x2 : List Value} (h1 : w.ownsRow B1 e1 k1 v1 n1 x1) (h2 : w.ownsRow B2 e2 k2 v2 n2 x2) (hT : e1 ≠ e2) : v1.ownBlock = none ∨ v1.ownBlock ≠ v2.ownBlock := by
  rcases h1.2 with ⟨hv, -⟩ | ⟨g, cap, cur, hv, -, hg, -⟩
  · left; rw [hv]; rfl
  · right
    rw [hv]
    intro he
    rcases h2.2 with ⟨hv2, -⟩ | ⟨g2, cap2, cur2, hv2, -, hg2, -⟩
    · rw [hv2] at he; cases he
    · rw [hv2] at he
      have e3 : g = g2 := Option.some.inj he
      subst e3
      have e4 := hg.symm.trans hg2
      injection e4 with e4
      injection e4 with _ e5 _
      exact hT e5
theorem flatQ_takeD (P : List Bs) (k : Nat) (h : k < P.length) : (P.take (k + 1)).flatMap dirOf = (P.take k).flatMap dirOf ++ dirOf (P.getD k []) := by
  rw [List.take_succ_eq_append_getElem h, List.flatMap_append]
  simp [List.getD, h]
theorem below_of_grownD {a b : World} {B k : Nat} {v : Value} {n : Nat} {xs : List Value} {e : TypeId} (h : a.grownBy b v.ownBlock) (ho : a.ownsRow B e k v n xs) (hB : B ≤ a.heap.size) : Below B a b :=
  (Below.refl B a).grown h hB fun k hk => (ho.lt k hk).1
def RDirs (D : List Dir) (w : World) (e : Ending) (w' : World) : Prop :=
  ∃ v, e = .returned v ∧ w'.ownsRow w.heap.size 71 3 v D.length (dcells D) ∧ Below w.heap.size w w'

set_option maxHeartbeats 16000000 in
set_option maxRecDepth 100000 in
theorem reach10_any (v0 : Value) (L : List Bs) (w : World) (hs : IsStrs w v0 L) (hz : ∀ x ∈ L, x.length ≤ 1000000) (hl : L.length ≤ 1000) (hn : Lib.lens L ≤ 1000000) :
    Calls Tryz.prog 32 #[v0] w (RDirs (dirsL L) w) := by
  obtain ⟨i0, hi0, hz0, hz1, hz2⟩ := info_parts dirInfo
  obtain ⟨a, cap, rfl⟩ : ∃ a cap, v0 = .slice a L.length cap := by obtain ⟨a, c, h, -⟩ := hs; exact ⟨a, c, h⟩
  have HS := Lib.hid hs
  have HZ := Lib.hid hz
  have HDn : Hid (∀ i k, i < L.length → (dirsL (L.take i)).length + (((splitL (L.getD i [])).take k).flatMap dirOf).length ≤ 1100000) := fun i k hi => by
    have h1 := dirsL_len (L.take i)
    have h2 := flatOf_len ((splitL (L.getD i [])).take k)
    have h3 := split_len (L.getD i [])
    have h4 : (L.getD i []).length ≤ 1000000 := hz _ (by simp [List.getD, hi])
    have h5 : Lib.lens (L.take i) + (L.getD i []).length ≤ 1000000 := by
      have h6 := lens_app (L.take i) (L.drop i)
      rw [List.take_append_drop] at h6
      have h7 : L.drop i = L.getD i [] :: L.drop (i + 1) := by rw [List.drop_eq_getElem_cons hi]; simp [List.getD, hi]
      rw [h7] at h6
      simp [Lib.lens] at h6
      simp [Lib.lens] at hn
      simp [Lib.lens]
      omega
    rw [List.length_take] at h1 h2
    omega
  clear hs hz hn
  go_enter Tryz.func32, Tryz.ntmps32
  go_wp2_with fail
  go_loopw [3, 4, 5, 6, 7, 8, 9, 10, 11] (fun v3 v4 _ _ _ _ _ _ _ wr => ∃ i : Nat, i ≤ L.length ∧ v4 = .int .i64 i ∧ Hid (Below w.heap.size w wr) ∧ Hid (wr.ownsRow w.heap.size 71 3 v3 (dirsL (L.take i)).length (dcells (dirsL (L.take i))))) (fun _ v4 _ _ _ _ _ _ _ _ => L.length - (RowKit.intOf v4).toNat)
  case atStart => exact ⟨0, Nat.zero_le _, rfl, Below.refl _ _, World.ownsRow_nil _ _ _ _⟩
  case round =>
    obtain ⟨i, hi, rfl, HB, HO⟩ := hrel
    rename World => W
    rename Value => vout
    by_cases hlt : i < L.length
    · obtain ⟨a', c', he, hcs⟩ := HS.out
      injection he with he1 _ he2
      subst he1 he2
      obtain ⟨bk, of, rfl, e1⟩ := hcs i (L.getD i []) (by simp [List.getD, hlt])
      have hc1 := (HB.out.cell (p := ⟨bk, of + i, none⟩) (cell_in (p := ⟨bk, of + i, none⟩) e1)).trans e1
      have HSp := Lib.hid (fun Wx => rSplit_any (mkS (L.getD i [])) Wx (by rw [size_mkS]; have := HZ.out (L.getD i []) (by simp [List.getD, hlt]); omega))
      have hxz := HZ.out (L.getD i []) (by simp [List.getD, hlt])
      have HDi := Lib.hid (fun k => HDn.out i k hlt)
      have hstep : dirsL (L.take (i + 1)) = dirsL (L.take i) ++ (splitL (L.getD i [])).flatMap dirOf := by
        rw [List.take_succ_eq_append_getElem hlt, dirs_app]
        simp [dirsL, dirsV, List.getD, hlt]
      have HStep := Lib.hid hstep
      have hPz : ∀ p ∈ splitL (L.getD i []), p.length ≤ 1000000 := fun p hp => Nat.le_trans (split_piece _ p hp) hxz
      have HPz := Lib.hid hPz
      have hPl : (splitL (L.getD i [])).length ≤ 1000001 := Nat.le_trans (split_len _) (by omega)
      have HPl := Lib.hid hPl
      unfold ListPost at HSp
      simp only [bs_mkS] at HSp
      generalize dirsL (L.take i) = D at *
      generalize splitL (L.getD i []) = P at *
      generalize L.getD i [] = x at *
      have g0 : (0 : Int) ≤ (i : Int) := by omega
      have g1 : (i : Int) < (L.length : Int) := by omega
      clear hstep hPz hPl hxz e1
      go_wp2_with fail
      refine (HSp.out _).mono ?_
      rintro e w1 ⟨vp, rfl, hop, hb1⟩
      have HP := Lib.hid hop
      have HB1 := Lib.hid (HB.out.trans (hb1.mono HB.out.size))
      have HO1 := Lib.hid (own_laterD HO.out hb1)
      obtain ⟨ap, cp, rfl⟩ : ∃ a c, vp = .slice a P.length c := by obtain ⟨a, c, h, -⟩ := isStrs_own hop; exact ⟨a, c, h⟩
      clear hb1 hop HO HB HSp
      go_wp2_with fail
      go_loopw [3, 6, 7, 8, 9, 10, 11] (fun v3 v6 _ _ _ _ _ wr => ∃ k : Nat, k ≤ P.length ∧ v6 = .int .i64 k ∧ Hid (Below w.heap.size w wr) ∧ Hid (wr.ownsRow W.heap.size 9 1 (.slice ap P.length cp) P.length (strs P)) ∧ Hid (wr.ownsRow w.heap.size 71 3 v3 (D ++ (P.take k).flatMap dirOf).length (dcells (D ++ (P.take k).flatMap dirOf)))) (fun _ v6 _ _ _ _ _ _ => P.length - (RowKit.intOf v6).toNat)
      case atStart => exact ⟨0, Nat.zero_le _, rfl, HB1, HP, (by show World.ownsRow _ _ _ _ _ _ _; simpa using HO1.out)⟩
      case round =>
        obtain ⟨k, hk, rfl, HBk, HPk, HOk⟩ := hrel
        rename World => Wk
        by_cases hkl : k < P.length
        · have hdk := HDi.out k
          have hflat : (P.take (k + 1)).flatMap dirOf = (P.take k).flatMap dirOf ++ dirOf (P.getD k []) := flatQ_takeD P k hkl
          obtain ⟨a', c', he, hcs⟩ := isStrs_own HPk.out
          injection he with he1 he9 he2
          clear he9
          subst he1 he2
          obtain ⟨bp, op, rfl, e1⟩ := hcs k (P.getD k []) (by simp [List.getD, hkl])
          have hpz := HPz.out (P.getD k []) (by simp [List.getD, hkl])
          have HLn : Hid ((D ++ (P.take k).flatMap dirOf).length ≤ 1100000) := by show _ ≤ _; rw [List.length_append]; exact hdk
          clear hcs hdk
          obtain ⟨E, hE⟩ : ∃ E, E = D ++ (P.take k).flatMap dirOf := ⟨_, rfl⟩
          rw [← hE] at HOk HLn
          have HE := Lib.hid hE
          clear hE
          generalize P.getD k [] = p at *
          obtain ⟨sb, hsb⟩ : ∃ sb, sb = mkS p := ⟨_, rfl⟩
          have hps : p = bs sb := by rw [hsb]; rfl
          rw [← hsb] at e1
          rw [hps] at hflat hpz
          rw [length_bs] at hpz
          clear hps hsb
          clear p
          have HFl := Lib.hid hflat
          have HSz := Lib.hid hpz
          have g2 : (0 : Int) ≤ (k : Int) := by omega
          have g3 : (k : Int) < (P.length : Int) := by omega
          have gk : (k : Int) ≤ 1000001 := by have := HPl.out; omega
          clear hflat
          go_wp2_with fail
          go_loop [8] (fun vj => ∃ j : Nat, j ≤ sb.size ∧ vj = .int .i64 j ∧ Hid (∀ x ∈ (bs sb).take j, x ≠ 61)) (fun vj => sb.size - (RowKit.intOf vj).toNat)
          case atStart => exact ⟨0, Nat.zero_le _, rfl, by intro x hx; simp at hx⟩
          case round =>
            obtain ⟨j, hj, rfl, HN⟩ := hrel
            by_cases hjl : j < sb.size
            · have hjb : j < (bs sb).length := by rw [length_bs]; exact hjl
              have hg : (bs sb).getD j 0 = (sb[j]'hjl) := getD_bs sb j hjl
              have g4 : (j : Int) < (sb.size : Int) := by omega
              have g5 : (0 : Int) ≤ (j : Int) := by omega
              have g6 : ((j : Nat) : Int).toNat = j := by omega
              by_cases h61 : (sb[j]'hjl) = 61
              · obtain ⟨hd1, hd2⟩ := dirR_hit (bs sb) j hjb (hg.trans h61) HN.out
                have b61 : (((sb[j]'hjl).toNat : Int) != 61) = false := by rw [h61]; rfl
                have hx1 : bs (sb.extract 0 j) = (bs sb).take j := by rw [bs_extract]; simp
                have hx2 : bs (sb.extract (j + 1) sb.size) = (bs sb).drop (j + 1) := by rw [bs_extract, List.take_of_length_le (by rw [List.length_drop, length_bs]; omega)]
                have hs1 : (sb.extract 0 j).size ≤ 1000000 := by rw [ByteArray.size_extract]; have := HSz.out; omega
                have hs2 : (sb.extract (j + 1) sb.size).size ≤ 1000000 := by rw [ByteArray.size_extract]; have := HSz.out; omega
                have HLw := Lib.hid (fun Wx => refLower_any (sb.extract 0 j) Wx (by omega))
                have HUq := Lib.hid (fun Wx => runquote_any (sb.extract (j + 1) sb.size) Wx (by omega))
                unfold StrPost at HLw
                unfold UqPost at HUq
                rw [hx1] at HLw
                rw [hx2] at HUq
                have hdr : dirOf (bs sb) = if tokL (lowL ((bs sb).take j)) = true then [(lowL ((bs sb).take j), unqT ((bs sb).drop (j + 1)), true)] else [] := by rw [dirOf_eq, hd2, hd1]
                have hnl : (lowL ((bs sb).take j)).length ≤ 1000000 := by unfold lowL; rw [List.length_map, List.length_take, length_bs]; have := HSz.out; omega
                have htx : sb.extract (j + 1) sb.size = mkS ((bs sb).drop (j + 1)) := by rw [← hx2, mkS_bs]
                have HDr := Lib.hid hdr
                generalize lowL ((bs sb).take j) = nm at *
                generalize (bs sb).drop (j + 1) = tx at *
                generalize hsx : sb.extract (j + 1) sb.size = tb at *
                have HTk := Lib.hid (fun Wx => rToken_any (mkS nm) Wx (by rw [size_mkS]; omega))
                simp only [bs_mkS] at HTk
                have HTx := Lib.hid htx
                have g7 : (0 : Int) ≤ (j : Int) + 1 := by omega
                have g8 : (j : Int) + 1 ≤ (sb.size : Int) := by omega
                have g9 : ((j : Int) + 1).toNat = j + 1 := by omega
                clear hd1 hd2 hdr hnl hx1 hx2 hjb hg h61 hs1 hs2 htx
                go_wp2_with fail
                refine (HLw.out _).mono ?_
                rintro e w3 ⟨rfl, hb3⟩
                go_wp2_with fail
                go_region
                have hb4 := hb3.trans ((below_allocC w3 (.cells #[.string (mkS nm), .string tb, .bool true] 71)).drew.mono hb3.size)
                have HX4 := Lib.hid ((Bx.new w3 71 #[.string (mkS nm), .string tb, .bool true]).later (Below.refl _ _).drew)
                have HBb := Lib.hid hb4
                generalize (w3.alloc (.cells #[.string (mkS nm), .string tb, .bool true] 71)).drew = W4 at *
                have hdW : Wk.heap.size ≤ w3.heap.size := hb3.size
                generalize w3.heap.size = dB at *
                have z1 := HX4.out.cell 1 _ rfl
                clear hb3 hb4 HLw
                go_wp2_with fail
                refine (HUq.out _).mono ?_
                rintro e w4 ⟨rfl, hb5⟩
                have hb6 := HBb.out.trans (hb5.mono HBb.out.size)
                have HX6 := Lib.hid (HX4.out.later hb5)
                have HB6 := Lib.hid (HBk.out.trans (hb6.mono HBk.out.size))
                have HO6 := Lib.hid (own_laterD HOk.out hb6)
                have HP6 := Lib.hid (own_laterD HPk.out hb6)
                clear hb5 hb6 z1 HX4 HBb
                by_cases hok : unqOk tx = true
                · have hu : unqT tx = unq (tx.drop 1) := by unfold unqT; rw [if_pos hok]
                  have hu2 : uqT tx = unq (tx.drop 1) ∧ uqC tx = 0 := by unfold uqT uqC; rw [if_pos hok, if_pos hok]; exact ⟨rfl, rfl⟩
                  rw [hu] at HDr
                  rw [hu2.1, hu2.2]
                  generalize unq (tx.drop 1) = ux at *
                  have f1 : w4.frozen? ⟨dB, 1, none⟩ = false := HX6.out.frozen 1
                  have z1 : w4.cell? ⟨dB, 1, none⟩ = some (.string tb) := HX6.out.cell 1 _ rfl
                  have HX5 := Lib.hid (show Bx (w4.setCell ⟨dB, 1, none⟩ (.string (mkS ux))) dB 71 #[.string (mkS nm), .string (mkS ux), .bool true] from HX6.out.set 1 (.string (mkS ux)))
                  have hdB : w.heap.size ≤ dB := Nat.le_trans HBk.out.size hdW
                  have hn1 : u3.ownBlock ≠ some dB := fun h => by have := (HOk.out.lt _ h).2; omega
                  have hn2 : (Value.slice (some ⟨bp, op, none⟩) P.length cp).ownBlock ≠ some dB := fun h => by have := (HPk.out.lt _ h).2; omega
                  have HB5 := Lib.hid (HB6.out.setCell (p := ⟨dB, 1, none⟩) hdB (.string (mkS ux)))
                  have HO5 := Lib.hid (HO6.out.kept (grown_setC w4 dB 1 (.string (mkS ux))) (.inr hn1))
                  have HP5 := Lib.hid (HP6.out.kept (grown_setC w4 dB 1 (.string (mkS ux))) (.inr hn2))
                  have z00 : w4.cell? ⟨dB, 0, none⟩ = some (.string (mkS nm)) := HX6.out.cell 0 _ rfl
                  clear hu hu2 hok HUq HX6 HB6 HO6 HP6 hn1 hn2 hdB hdW
                  by_cases htk : tokL nm = true
                  · rw [htk] at HTk
                    have hnx : D ++ (P.take (k + 1)).flatMap dirOf = E ++ [(nm, ux, true)] := by rw [HFl.out, HDr.out, htk, ← List.append_assoc, ← HE.out]; rfl
                    have HNx := Lib.hid hnx
                    clear hnx htk HFl HDr
                    go_wp2_with fail
                    generalize w4.setCell ⟨dB, 1, none⟩ (.string (mkS ux)) = W5 at *
                    have y0 : W5.cell? ⟨dB, 0, none⟩ = some (.string (mkS nm)) := HX5.out.cell 0 _ rfl
                    have y1 : W5.cell? ⟨dB, 1, none⟩ = some (.string (mkS ux)) := HX5.out.cell 1 _ rfl
                    have y2 : W5.cell? ⟨dB, 2, none⟩ = some (.bool true) := HX5.out.cell 2 _ rfl
                    refine (HTk.out _).mono ?_
                    rintro e w8 ⟨rfl, rfl⟩
                    go_wp2_with (first | (refine wpList_load_row rfl _ _ rfl dB rfl _ #[.string (mkS nm), .string (mkS ux), .bool true] (0, 0) _ HX5.out Tryz.underlying71 rfl (dir_size _ _ _) ?_) | (at_builtin; refine wpList_append_own _ rfl _ _ 68 rfl w.heap.size 71 i0 (.agg #[.string .empty, .string .empty, .bool false]) 3 40 Tryz.underlying68 hi0 hz0 hz1 hz2 rfl (by decide) _ _ _ rfl (HO5.out.alloc _) ⟨W5.heap.size, 0, none⟩ 1 1 [.string (mkS nm), .string (mkS ux), .bool true] rfl rfl (cell_three_new W5 _ _ _ _) (by simp [Value.oneCell']) (by have := HLn.out; simp only [maxLen]; omega) (by have := HLn.out; omega) (by have := HB5.out.size; simp; omega) ?_))
                    intro v6 w6 ho6 hg6 _
                    have hb6 := (HB5.out.alloc HB5.out.size (.cells #[.string (mkS nm), .string (mkS ux), .bool true] 71)).trans (below_of_grownD hg6 (HO5.out.alloc _) (by have := HB5.out.size; simp; omega))
                    have HP6 : Hid (w6.ownsRow W.heap.size 9 1 (.slice (some ⟨bp, op, none⟩) P.length cp) P.length (strs P)) := Lib.hid ((HP5.out.alloc (.cells #[.string (mkS nm), .string (mkS ux), .bool true] 71)).kept hg6 (rows_neD HP5.out HO5.out (by decide)))
                    have HB6 := Lib.hid hb6
                    have HO6 : Hid (w6.ownsRow w.heap.size 71 3 v6 (D ++ (P.take (k + 1)).flatMap dirOf).length (dcells (D ++ (P.take (k + 1)).flatMap dirOf))) := by
                      show World.ownsRow _ _ _ _ _ _ _
                      rw [HNx.out, dcells_app, List.length_append]
                      exact ho6
                    clear ho6 hg6 hb6
                    go_wp2_with fail
                    exact ⟨⟨k + 1, by omega, by go_num, HB6, HP6, HO6⟩, by simp [RowKit.intOf]; omega⟩
                  · have htf : tokL nm = false := by simpa using htk
                    rw [htf] at HTk
                    have hnx : D ++ (P.take (k + 1)).flatMap dirOf = E := by rw [HFl.out, HDr.out, htf, ← List.append_assoc, ← HE.out]; simp
                    have HNx := Lib.hid hnx
                    clear hnx htk htf HFl HDr
                    go_wp2_with fail
                    generalize w4.setCell ⟨dB, 1, none⟩ (.string (mkS ux)) = W5 at *
                    have y0 : W5.cell? ⟨dB, 0, none⟩ = some (.string (mkS nm)) := HX5.out.cell 0 _ rfl
                    have y1 : W5.cell? ⟨dB, 1, none⟩ = some (.string (mkS ux)) := HX5.out.cell 1 _ rfl
                    have y2 : W5.cell? ⟨dB, 2, none⟩ = some (.bool true) := HX5.out.cell 2 _ rfl
                    refine (HTk.out _).mono ?_
                    rintro e w8 ⟨rfl, rfl⟩
                    go_wp2_with fail
                    refine ⟨⟨k + 1, by omega, by go_num, HB5, HP5, ?_⟩, by simp [RowKit.intOf]; omega⟩
                    show World.ownsRow _ _ _ _ _ _ _
                    rw [HNx.out]
                    exact HO5.out
                · have hof : unqOk tx = false := by simpa using hok
                  have hu : unqT tx = tx := by unfold unqT; rw [if_neg hok]
                  have hu2 : uqC tx = 4 := by unfold uqC; rw [hof]; rfl
                  rw [hu] at HDr
                  rw [hu2]
                  generalize uqT tx = ut at *
                  obtain rfl := HTx.out
                  clear hu hu2 hok hof HUq hdW
                  by_cases htk : tokL nm = true
                  · rw [htk] at HTk
                    have hnx : D ++ (P.take (k + 1)).flatMap dirOf = E ++ [(nm, tx, true)] := by rw [HFl.out, HDr.out, htk, ← List.append_assoc, ← HE.out]; rfl
                    have HNx := Lib.hid hnx
                    clear hnx htk HFl HDr
                    have z0 : w4.cell? ⟨dB, 0, none⟩ = some (.string (mkS nm)) := HX6.out.cell 0 _ rfl
                    have y1 : w4.cell? ⟨dB, 1, none⟩ = some (.string (mkS tx)) := HX6.out.cell 1 _ rfl
                    have y2 : w4.cell? ⟨dB, 2, none⟩ = some (.bool true) := HX6.out.cell 2 _ rfl
                    go_wp2_with fail
                    refine (HTk.out _).mono ?_
                    rintro e w8 ⟨rfl, rfl⟩
                    go_wp2_with (first | (refine wpList_load_row rfl _ _ rfl dB rfl _ #[.string (mkS nm), .string (mkS tx), .bool true] (0, 0) _ HX6.out Tryz.underlying71 rfl (dir_size _ _ _) ?_) | (at_builtin; refine wpList_append_own _ rfl _ _ 68 rfl w.heap.size 71 i0 (.agg #[.string .empty, .string .empty, .bool false]) 3 40 Tryz.underlying68 hi0 hz0 hz1 hz2 rfl (by decide) _ _ _ rfl (HO6.out.alloc _) ⟨w4.heap.size, 0, none⟩ 1 1 [.string (mkS nm), .string (mkS tx), .bool true] rfl rfl (cell_three_new w4 _ _ _ _) (by simp [Value.oneCell']) (by have := HLn.out; simp only [maxLen]; omega) (by have := HLn.out; omega) (by have := HB6.out.size; simp; omega) ?_))
                    intro v6 w6 ho6 hg6 _
                    have hb6 := (HB6.out.alloc HB6.out.size (.cells #[.string (mkS nm), .string (mkS tx), .bool true] 71)).trans (below_of_grownD hg6 (HO6.out.alloc _) (by have := HB6.out.size; simp; omega))
                    have HP7 : Hid (w6.ownsRow W.heap.size 9 1 (.slice (some ⟨bp, op, none⟩) P.length cp) P.length (strs P)) := Lib.hid ((HP6.out.alloc (.cells #[.string (mkS nm), .string (mkS tx), .bool true] 71)).kept hg6 (rows_neD HP6.out HO6.out (by decide)))
                    have HB7 := Lib.hid hb6
                    have HO7 : Hid (w6.ownsRow w.heap.size 71 3 v6 (D ++ (P.take (k + 1)).flatMap dirOf).length (dcells (D ++ (P.take (k + 1)).flatMap dirOf))) := by
                      show World.ownsRow _ _ _ _ _ _ _
                      rw [HNx.out, dcells_app, List.length_append]
                      exact ho6
                    clear ho6 hg6 hb6
                    go_wp2_with fail
                    exact ⟨⟨k + 1, by omega, by go_num, HB7, HP7, HO7⟩, by simp [RowKit.intOf]; omega⟩
                  · have htf : tokL nm = false := by simpa using htk
                    rw [htf] at HTk
                    have hnx : D ++ (P.take (k + 1)).flatMap dirOf = E := by rw [HFl.out, HDr.out, htf, ← List.append_assoc, ← HE.out]; simp
                    have HNx := Lib.hid hnx
                    clear hnx htk htf HFl HDr
                    have z0 : w4.cell? ⟨dB, 0, none⟩ = some (.string (mkS nm)) := HX6.out.cell 0 _ rfl
                    have y1 : w4.cell? ⟨dB, 1, none⟩ = some (.string (mkS tx)) := HX6.out.cell 1 _ rfl
                    have y2 : w4.cell? ⟨dB, 2, none⟩ = some (.bool true) := HX6.out.cell 2 _ rfl
                    go_wp2_with fail
                    refine (HTk.out _).mono ?_
                    rintro e w8 ⟨rfl, rfl⟩
                    go_wp2_with fail
                    refine ⟨⟨k + 1, by omega, by go_num, HB6, HP6, ?_⟩, by simp [RowKit.intOf]; omega⟩
                    show World.ownsRow _ _ _ _ _ _ _
                    rw [HNx.out]
                    exact HO6.out
              · have b61 : (((sb[j]'hjl).toNat : Int) != 61) = true := by
                  rw [bne_iff_ne]
                  intro e
                  exact h61 (UInt8.toNat_inj.1 (show (sb[j]'hjl).toNat = 61 by omega))
                have hnn : ∀ x ∈ (bs sb).take (j + 1), x ≠ 61 := by
                  intro x hx
                  rw [List.take_succ_eq_append_getElem hjb, List.mem_append, List.mem_singleton] at hx
                  rcases hx with hx | hx
                  · exact HN.out x hx
                  · subst hx
                    intro e
                    apply h61
                    rw [← hg]
                    simpa [List.getD, hjb] using e
                have HN2 := Lib.hid hnn
                clear hnn h61 hg hjb
                go_wp2_with fail
                exact ⟨⟨j + 1, by omega, by go_num, HN2⟩, by simp [RowKit.intOf]; omega⟩
            · have g4 : ¬ (j : Int) < (sb.size : Int) := by omega
              have hall : ∀ x ∈ bs sb, x ≠ 61 := by have h := HN.out; rw [List.take_of_length_le (by rw [length_bs]; omega)] at h; exact h
              obtain ⟨hd1, hd2⟩ := dirR_miss (bs sb) hall
              obtain rfl : j = sb.size := by omega
              have HLw := Lib.hid (fun Wx => refLower_any sb Wx (by have := HSz.out; omega))
              unfold StrPost at HLw
              have hdr : dirOf (bs sb) = if tokL (lowL (bs sb)) = true then [(lowL (bs sb), [], false)] else [] := by rw [dirOf_eq, hd2, hd1]
              have hnl : (lowL (bs sb)).length ≤ 1000000 := by unfold lowL; rw [List.length_map, length_bs]; exact HSz.out
              have HDr := Lib.hid hdr
              generalize lowL (bs sb) = nm at *
              have HTk := Lib.hid (fun Wx => rToken_any (mkS nm) Wx (by rw [size_mkS]; omega))
              simp only [bs_mkS] at HTk
              clear hall hd1 hd2 hdr hnl
              go_wp2_with fail
              refine (HLw.out _).mono ?_
              rintro e w3 ⟨rfl, hb3⟩
              have hb4 := hb3.trans ((below_allocC w3 (.cells #[.string (mkS nm), .string ⟨#[]⟩, .bool false] 71)).mono hb3.size)
              have HB5 := Lib.hid (HBk.out.trans (hb4.mono HBk.out.size))
              have HO5 := Lib.hid (own_laterD HOk.out hb4)
              have HP5 := Lib.hid (own_laterD HPk.out hb4)
              have HX5 := Lib.hid (Bx.new w3 71 #[.string (mkS nm), .string ⟨#[]⟩, .bool false])
              clear hb3 hb4
              go_wp2_with fail
              generalize w3.alloc (.cells #[.string (mkS nm), .string ⟨#[]⟩, .bool false] 71) = W5 at *
              by_cases htk : tokL nm = true
              · rw [htk] at HTk
                have hnx : D ++ (P.take (k + 1)).flatMap dirOf = E ++ [(nm, [], false)] := by rw [HFl.out, HDr.out, htk, ← List.append_assoc, ← HE.out]; rfl
                have HNx := Lib.hid hnx
                clear hnx htk HFl HDr
                have z0 := HX5.out.cell 0 _ rfl
                go_wp2_with fail
                refine (HTk.out _).mono ?_
                rintro e w8 ⟨rfl, rfl⟩
                go_wp2_with (first | (refine wpList_load_row rfl _ _ rfl w3.heap.size rfl _ #[.string (mkS nm), .string (⟨#[]⟩), .bool false] (0, 0) _ HX5.out Tryz.underlying71 rfl (dir_size _ _ _) ?_) | (at_builtin; refine wpList_append_own _ rfl _ _ 68 rfl w.heap.size 71 i0 (.agg #[.string .empty, .string .empty, .bool false]) 3 40 Tryz.underlying68 hi0 hz0 hz1 hz2 rfl (by decide) _ _ _ rfl (HO5.out.alloc _) ⟨W5.heap.size, 0, none⟩ 1 1 [.string (mkS nm), .string (⟨#[]⟩), .bool false] rfl rfl (cell_three_new W5 _ _ _ _) (by simp [Value.oneCell']) (by have := HLn.out; simp only [maxLen]; omega) (by have := HLn.out; omega) (by have := HB5.out.size; simp; omega) ?_))
                intro v6 w6 ho6 hg6 _
                have hb6 := (HB5.out.alloc HB5.out.size (.cells #[.string (mkS nm), .string (⟨#[]⟩), .bool false] 71)).trans (below_of_grownD hg6 (HO5.out.alloc _) (by have := HB5.out.size; simp; omega))
                have HP6 : Hid (w6.ownsRow W.heap.size 9 1 (.slice (some ⟨bp, op, none⟩) P.length cp) P.length (strs P)) := Lib.hid ((HP5.out.alloc (.cells #[.string (mkS nm), .string (⟨#[]⟩), .bool false] 71)).kept hg6 (rows_neD HP5.out HO5.out (by decide)))
                have HB6 := Lib.hid hb6
                have HO6 : Hid (w6.ownsRow w.heap.size 71 3 v6 (D ++ (P.take (k + 1)).flatMap dirOf).length (dcells (D ++ (P.take (k + 1)).flatMap dirOf))) := by
                  show World.ownsRow _ _ _ _ _ _ _
                  rw [HNx.out, dcells_app, List.length_append]
                  exact ho6
                clear ho6 hg6 hb6
                go_wp2_with fail
                exact ⟨⟨k + 1, by omega, by go_num, HB6, HP6, HO6⟩, by simp [RowKit.intOf]; omega⟩
              · have htf : tokL nm = false := by simpa using htk
                rw [htf] at HTk
                have hnx : D ++ (P.take (k + 1)).flatMap dirOf = E := by rw [HFl.out, HDr.out, htf, ← List.append_assoc, ← HE.out]; simp
                have HNx := Lib.hid hnx
                clear hnx htk htf HFl HDr
                have z0 := HX5.out.cell 0 _ rfl
                go_wp2_with fail
                refine (HTk.out _).mono ?_
                rintro e w8 ⟨rfl, rfl⟩
                go_wp2_with fail
                refine ⟨⟨k + 1, by omega, by go_num, HB5, HP5, ?_⟩, by simp [RowKit.intOf]; omega⟩
                show World.ownsRow _ _ _ _ _ _ _
                rw [HNx.out]
                exact HO5.out
        · obtain rfl : k = P.length := by omega
          have hfin : D ++ (P.take P.length).flatMap dirOf = dirsL (L.take (i + 1)) := by rw [List.take_length, HStep.out]
          rw [hfin] at HOk
          have HOf := Lib.hid HOk.out
          have gl : (P.length : Int) ≤ 1000001 := by have := HPl.out; omega
          have gi : (i : Int) ≤ 1000 := by omega
          clear hfin HOk
          go_wp2_with fail
          exact ⟨⟨i + 1, by omega, by go_num, HBk, HOf⟩, by simp [RowKit.intOf]; omega⟩
    · have hD : dirsL (L.take i) = dirsL L := by rw [List.take_of_length_le (by omega)]
      rw [hD] at HO
      have HO2 := Lib.hid HO.out
      clear hD HO
      have g1 : ¬ (i : Int) < (L.length : Int) := by omega
      go_wp2_with fail
      go_ret
      exact ⟨_, rfl, HO2.out, HB.out⟩
end Tk
end Go.Proofs.YtnbipbeeengiaaaGreatDoor
