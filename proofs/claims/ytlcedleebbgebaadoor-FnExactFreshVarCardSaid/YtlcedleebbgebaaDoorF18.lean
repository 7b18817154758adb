/-
  Merged by program: FrsLaw.
-/
import Derived.Test.YtlcedleebbgebaaDoorF7
import Derived.Test.YtlcedleebbgebaaDoorF14
import Derived.Test.YtlcedleebbgebaaDoorF17

/-
  The law 'FreshVar answers as the model does', walked.
-/
namespace Go.Proofs.YtlcedleebbgebaaDoor
open Go.RowKit

set_option maxRecDepth 100000 in
set_option maxHeartbeats 1600000 in
theorem frs_law (A : Option Addr) (c : Nat) (xs : List ByteArray) (w : World) (h : Sl w A (xs.map Value.string)) (hn : xs.length ≤ 9223372036854775807)
    (hx : ∀ x ∈ xs, x.size ≤ 9223372036854775807) (hxm : ∀ x ∈ xs, x.size ≤ maxLen) (ht : TabOk w) :
    Calls Tryd.prog 3 #[.slice A xs.length c] w (LawYes w) := by
  have HT := Lib.hid ht
  have HXM := Lib.hid hxm
  clear ht hxm
  go_enter Tryd.func3, Tryd.ntmps3
  go_wp2_with fail
  refine (szStringS_any A c xs _ _ h hn hx (by omega) (by omega)).mono ?_
  rintro e w' ⟨r, rfl, hr1, hr2, hr3, rfl⟩
  by_cases hneg : r < 0
  · clear hr3
    go_wp2_with fail
    go_ret
    exact ⟨rfl, Below.refl _ _⟩
  · have hsum : xs.length + total xs ≤ 1048576 := by have := hr3 (by omega); omega
    clear hr3
    go_wp2_with fail
    refine (toStringS_any A c xs _ h (by omega)).mono ?_
    rintro e w1 ⟨rfl, hown1, hb1⟩
    have s1 := Sl.of_own hown1
    clear hown1
    go_wp2_with fail
    refine (specFresh_any _ _ xs w1 s1 (by omega)).mono ?_
    rintro e w2 ⟨k, HK, hkl, rfl, hb2⟩
    have hb12 := hb1.trans (hb2.mono hb1.size)
    have h2 : Sl w2 A (xs.map Value.string) := h.below hb12
    have HKF := Lib.hid HK
    clear s1 HK hb1 hb2
    go_wp2_with fail
    refine (toStringS_any A c xs _ h2 (by omega)).mono ?_
    rintro e w3 ⟨rfl, hown3, hb3⟩
    have s3 := Sl.of_own hown3
    have hb13 := hb12.trans (hb3.mono hb12.size)
    have h3 : Sl w3 A (xs.map Value.string) := h.below hb13
    clear hown3 hb3 hb12 h2
    go_wp2_with fail
    refine (implFresh_any _ _ xs w3 s3 (by omega) HXM.out (HT.out.keep hb13)).mono ?_
    rintro e w4 ⟨k', hk', _, rfl, hb4⟩
    obtain rfl := fresh_uniq hk' HKF.out
    have hb14 := hb13.trans (hb4.mono hb13.size)
    have h4 : Sl w4 A (xs.map Value.string) := h.below hb14
    have s4 := s3.below hb4
    clear hk' HKF s3 hb13 hb4 h3
    generalize fvb k' = z
    go_wp2_with fail
    refine (toStringS_any A c xs _ h4 (by omega)).mono ?_
    rintro e w5 ⟨rfl, hown5, hb5⟩
    have s5 := Sl.of_own hown5
    have t5 := s4.below hb5
    have hb15 : Below w.heap.size w w5 := hb14.trans (hb5.mono hb14.size)
    clear s4 hb5 hb14 h4 hown5
    go_wp2_with fail
    refine (eqStringS_same _ _ _ _ xs w5 t5 s5 (by omega)).mono ?_
    rintro e w6 ⟨rfl, n, rfl⟩
    go_wp2_with fail
    go_ret
    exact ⟨rfl, below_drewN hb15 n⟩
end Go.Proofs.YtlcedleebbgebaaDoor
