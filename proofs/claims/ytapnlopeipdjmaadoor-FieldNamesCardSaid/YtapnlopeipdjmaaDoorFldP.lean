/- field.Del. -/
import Derived.Test.YtapnlopeipdjmaaDoorFldK
namespace Go.Proofs.YtapnlopeipdjmaaDoor
open Go.RowKit
namespace Tk

theorem own_base {w : World} {B B2 n : Nat} {v : Value} {xs : List Value} {e : TypeId} (h : w.ownsRow B e 2 v n xs) (hb : B2 ≤ B) : w.ownsRow B2 e 2 v n xs := by
  refine ⟨h.1, ?_⟩
  rcases h.2 with h2 | ⟨g, cap, cur, hv, hge, h2⟩
  · exact .inl h2
  · exact .inr ⟨g, cap, cur, hv, Nat.le_trans hb hge, h2⟩
theorem ownBlock_lt {w : World} {B n : Nat} {v : Value} {xs : List Value} {e : TypeId} (h : w.ownsRow B e 2 v n xs) : v.ownBlock ≠ some w.heap.size := by
  intro hh
  have := (h.lt _ hh).2
  omega

set_option maxHeartbeats 4000000 in
set_option maxRecDepth 100000 in
theorem fdel_any (v : Value) (l : List (Bs × Bs)) (name : Bs) (w : World) (hs : IsFlds w v l) (hnl : ∀ n c, v = .slice none n c → c = 0)
    (hz : ∀ f ∈ l, f.1.length ≤ 1099511627776 ∧ f.2.length ≤ 1099511627776) (hn : name.length ≤ 1099511627776) (hl : l.length ≤ 1048576) :
    Calls Tryd.prog 40 #[v, .string (mkS name)] w (OwnPost (delF name l) w) := by
  have HZ := Lib.hid hz
  have HZ2 : Hid (∀ f ∈ delF name l, f.1.length ≤ 1099511627776 ∧ f.2.length ≤ 1099511627776) := fun f hf => hz f (List.mem_filter.1 hf).1
  have hl2 : (delF name l).length ≤ 1048576 := Nat.le_trans (delF_len name l) hl
  have HCl := Lib.hid (sclone_any v l w hs hnl hl)
  have HN := Lib.hid (fun W : World => named_any name W)
  unfold OwnPost at HCl ⊢
  obtain ⟨a, cap, rfl⟩ : ∃ a cap, v = .slice a l.length cap := by obtain ⟨a, c, h, -⟩ := hs; exact ⟨a, c, h⟩
  clear hs hnl hz
  go_enter Tryd.func40, Tryd.ntmps40
  go_wp2_with fail
  refine HCl.out.mono ?_
  rintro e w1 ⟨v1, rfl, ho, hb⟩
  have HO := Lib.hid ho
  have HB := Lib.hid hb
  clear ho hb
  go_wp2_with fail
  refine (HN.out _).mono ?_
  rintro e w2 ⟨rfl, hg, hb⟩
  have HD := Lib.hid (delf_any v1 l name w1.heap.size w.heap.size w2 (own_keep2f HO.out hb) (Nat.le_trans HB.out.size hb.size) hg (ownBlock_lt HO.out) HZ.out hn hl)
  have HB2 := Lib.hid (HB.out.trans (hb.mono HB.out.size))
  clear hg hb
  go_wp2_with fail
  refine HD.out.mono ?_
  rintro e w3 ⟨v3, rfl, hf, hb⟩
  have HB3 := Lib.hid (HB2.out.trans hb)
  have HC := Lib.hid (copied_any v3 (delF name l) w3 hf HZ2.out hl2)
  unfold OwnPost at HC
  clear hf hb
  go_wp2_with fail
  refine HC.out.mono ?_
  rintro e w4 ⟨v4, rfl, ho, hb⟩
  have HO4 := Lib.hid (own_base ho HB3.out.size)
  have HB4 := Lib.hid (HB3.out.trans (hb.mono HB3.out.size))
  clear ho hb
  go_wp2_with fail
  go_ret
  exact ⟨v4, rfl, HO4.out, HB4.out⟩
end Tk
end Go.Proofs.YtapnlopeipdjmaaDoor
