/-
  The law 'SplitByte answers as the model does, in memory of its own', walked.
-/
import Derived.Test.YtbahiaeppagncaaDoorSplitB
import Derived.Test.YtbahiaeppagncaaDoorMark
import Derived.Test.YtbahiaeppagncaaDoorEqStr
namespace Go.Proofs.YtbahiaeppagncaaDoor
open Go.RowKit

set_option maxHeartbeats 1600000 in
theorem split_law (s : ByteArray) (c : UInt8) (w : World) (hs : s.size ≤ 9223372036854775807) (hm : MaxL w) :
    Calls Tryd.prog 8 #[.string s, .int .u8 c.toNat] w (LawYes w) := by
  have HM := Lib.hid hm
  clear hm
  by_cases hbig : 1048576 < s.size
  · go_enter Tryd.func8, Tryd.ntmps8
    go_wp2_with fail
    go_ret
    exact ⟨rfl, Below.refl _ _⟩
  · have hs1 : s.size ≤ 1048576 := by omega
    go_enter Tryd.func8, Tryd.ntmps8
    go_wp2_with fail
    refine (specSplit_any s c w hs1).mono ?_
    rintro e w1 ⟨g0, c0, xs, rfl, hown0, hb1, hp0⟩
    have hlen := splitL_len c s.data.toList
    rw [size_data, ← hp0, List.length_map] at hlen
    have hxl : xs.length ≤ 1048577 := by omega
    have s0 := Sl.of_own hown0
    have hg0 : w.heap.size ≤ g0 ∧ g0 < w1.heap.size := hown0.lt g0 rfl
    have HP := Lib.hid hp0
    have HM1 := Lib.hid (HM.out.below hb1)
    clear hlen hown0 hp0
    go_wp2_with fail
    refine (implSplit_any s c w1 hs1 HM1.out).mono ?_
    rintro e w2 ⟨g, cap, ys, rfl, hown1, hb2, hp1⟩
    obtain rfl : xs = ys := map_data_inj (HP.out.trans hp1.symm)
    have hg1 : w1.heap.size ≤ g ∧ g < w2.heap.size := hown1.lt g rfl
    have s1 := Sl.of_own hown1
    have t0 := s0.below hb2
    have hb12 : Below w.heap.size w w2 := hb1.trans (hb2.mono hb1.size)
    have HO := Lib.hid hown1
    clear hp1 hown1 s0 hb1 hb2
    go_wp2_with fail
    refine (eqStringS_same _ _ _ _ xs w2 s1 t0 (by omega)).mono ?_
    rintro e w3 ⟨rfl, q, rfl⟩
    have hb13 := below_drewN hb12 q
    have hown3 : (w2.drewN q).ownsRow w1.heap.size 9 1 (.slice (some ⟨g, 0, none⟩) xs.length cap) xs.length (xs.map Value.string) := HO.out
    have t3 : Sl (w2.drewN q) (some ⟨g0, 0, none⟩) (xs.map Value.string) := t0
    have hsz3 : g0 < (w2.drewN q).heap.size := by have : g0 < w2.heap.size := by omega
                                                  exact this
    clear s1 t0 hb12
    go_wp2_with fail
    refine (markStringS_any g xs.length cap w1.heap.size 1 _ _ hown3 (fun u hu => by
      obtain ⟨x, _, rfl⟩ := List.mem_map.1 hu
      exact ⟨x, rfl⟩) (by omega) (by omega)).mono ?_
    rintro e w4 ⟨rfl, hown4, hgr4⟩
    have t4 := t3.grown hgr4 (show g0 ≠ g by omega)
    have m4 := Sl.of_own hown4
    have hw23 : w.heap.size ≤ (w2.drewN q).heap.size := hb13.size
    have hb14 := below_of_grown hb13 hgr4 hw23 (by omega)
    have HO4 := Lib.hid hown4
    clear hown3 hown4 t3 hgr4
    go_wp2_with fail
    refine (heldStringS_any _ xs.length cap 1 w4 m4 (by omega) (by omega)).mono ?_
    rintro e w5 ⟨rfl, hb5⟩
    have t5 := t4.below hb5
    have m5 := m4.below hb5
    have hb15 := hb14.trans (hb5.mono hb14.size)
    have HM5 := Lib.hid (HM.out.below hb15)
    clear t4 m4 hb5
    have hq0 : ¬ (1 + (xs.length : Int) < 0) := by omega
    go_wp2_with fail
    refine (implSplit_any s c w5 hs1 HM5.out).mono ?_
    rintro e w6 ⟨g6, c6, zs, rfl, hown6, hb6, hp6⟩
    obtain rfl : xs = zs := map_data_inj (HP.out.trans hp6.symm)
    have s6 := Sl.of_own hown6
    have t6 := t5.below hb6
    have m6 := m5.below hb6
    have hb16 := hb15.trans (hb6.mono hb15.size)
    clear hp6 hown6 t5 m5 hb6
    go_wp2_with fail
    refine (eqStringS_same _ _ _ _ xs w6 s6 t6 (by omega)).mono ?_
    rintro e w7 ⟨rfl, q7, rfl⟩
    have hb17 := below_drewN hb16 q7
    have m7 : Sl (w6.drewN q7) (some ⟨g, 0, none⟩) (marks 1 xs.length) := m6
    clear s6 t6 m6
    go_wp2_with fail
    refine (heldStringS_any _ xs.length cap 1 _ m7 (by omega) (by omega)).mono ?_
    rintro e w8 ⟨rfl, hb8⟩
    have hb18 := hb17.trans (hb8.mono hb17.size)
    clear hb8 m7
    go_wp2_with fail
    go_ret
    exact ⟨rfl, hb18⟩
end Go.Proofs.YtbahiaeppagncaaDoor
