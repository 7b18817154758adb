/-
  The law 'SortNames answers as the model does, in memory of its own', walked.
-/
import Derived.Test.YtgelkgkmkckinaaSortI
import Derived.Test.YtgelkgkmkckinaaSortS
import Derived.Test.YtgelkgkmkckinaaRow
namespace Go.Proofs.Ytgelkgkmkckinaa
open Go.RowKit

theorem made_of_own {xs : List ByteArray} {w w' : World} {en : Ending} (h : OwnL xs w en w') : MadeL xs.length (xs.map Value.string) w en w' := by
  obtain ⟨A, c, h1, h2, h3⟩ := h
  exact ⟨A, c, h1, Row.of h2, h3⟩

set_option maxHeartbeats 6400000 in
theorem sort_law (A : Option Addr) (c : Nat) (xs : List ByteArray) (w : World) (hA : Sl w A (xs.map Value.string)) (hn : xs.length ≤ 9223372036854775807) (hx : ∀ x ∈ xs, x.size ≤ 9223372036854775807) :
    Calls Try.prog 8 #[.slice A xs.length c] w (LawYes w) := by
  have HA := Lib.hid hA
  clear hA
  go_enter Try.func8, Try.ntmps8
  go_wp2_with fail
  refine (szStringS_any A c xs _ _ HA.out hn hx (by omega) (by omega)).mono ?_
  rintro e w' ⟨r, rfl, hr1, hr2, hr3, rfl⟩
  by_cases hneg : r < 0
  · clear hr3
    go_wp2_with fail
    go_ret
    exact ⟨rfl, Below.refl _ _⟩
  · have hsum : r + xs.length + total xs = 1048576 := hr3 (by omega)
    have hxl : xs.length ≤ 1048576 := by omega
    have HXS : Hid (∀ x ∈ xs, x.size ≤ 1048576) := fun x h => by have := mem_total h; omega
    clear hr3 hsum hr2 hx
    go_wp2_with fail
    refine (copyL_any A c xs _ HA.out hxl).mono ?_
    rintro e w1 ⟨AT, cT, rfl, r1, hb1⟩
    have N1 : Hid (w.heap.size ≤ w1.heap.size) := hb1.size
    have B1 := Lib.hid hb1
    have RT1 := Lib.hid r1
    clear hb1 r1
    go_wp2_with fail
    refine (specSort_any _ _ xs _ RT1.out.sl hxl).mono ?_
    rintro e w2 hp2
    obtain ⟨os, ha, hm, hl, hp2⟩ := hp2
    have HAS := Lib.hid ha
    have HMS := Lib.hid hm
    clear ha hm
    obtain ⟨AW, cW, rfl, r2, hb2⟩ := made_of_own hp2
    clear hp2
    have N2 : Hid (w1.heap.size ≤ w2.heap.size) := hb2.size
    have B2 := Lib.hid (B1.out.trans (hb2.mono B1.out.size))
    have RW2 := Lib.hid r2
    clear hb2 RT1 B1 r2
    go_wp2_with fail
    refine (copyL_any A c xs _ (HA.out.below B2.out) hxl).mono ?_
    rintro e w3 ⟨AX, cX, rfl, r3, hb3⟩
    have N3 : Hid (w2.heap.size ≤ w3.heap.size) := hb3.size
    have RW3 := Lib.hid (RW2.out.below hb3)
    have B3 := Lib.hid (B2.out.trans (hb3.mono B2.out.size))
    have RX3 := Lib.hid r3
    clear hb3 RW2 B2 r3
    go_wp2_with fail
    refine (implSort_any _ _ xs _ RX3.out.sl hxl HXS.out).mono ?_
    rintro e w4 hp4
    obtain ⟨ps, ha, hm, _, hp4⟩ := hp4
    obtain rfl : os = ps := asc_unique HAS.out ha (fun y => (HMS.out y).trans (hm y).symm)
    clear ha hm
    obtain ⟨AG, cG, rfl, r4, hb4⟩ := made_of_own hp4
    clear hp4
    have N4 : Hid (w3.heap.size ≤ w4.heap.size) := hb4.size
    have RW4 := Lib.hid (RW3.out.below hb4)
    have RX4 := Lib.hid (RX3.out.below hb4)
    have B4 := Lib.hid (B3.out.trans (hb4.mono B3.out.size))
    have RG4 := Lib.hid r4
    clear hb4 RW3 RX3 B3 r4
    go_wp2_with fail
    refine (eqL_any _ _ _ _ os _ RG4.out.sl RW4.out.sl (by omega)).mono ?_
    rintro e w5 ⟨rfl, hb5⟩
    have N5 : Hid (w4.heap.size ≤ w5.heap.size) := hb5.size
    have RW5 := Lib.hid (RW4.out.below hb5)
    have RX5 := Lib.hid (RX4.out.below hb5)
    have RG5 := Lib.hid (RG4.out.below hb5)
    have B5 := Lib.hid (B4.out.trans (hb5.mono B4.out.size))
    clear hb5 RW4 RX4 RG4 B4
    go_wp2_with fail
    refine (copyL_any A c xs _ (HA.out.below B5.out) hxl).mono ?_
    rintro e w6 ⟨AP, cP, rfl, r6, hb6⟩
    have N6 : Hid (w5.heap.size ≤ w6.heap.size) := hb6.size
    have RW6 := Lib.hid (RW5.out.below hb6)
    have RX6 := Lib.hid (RX5.out.below hb6)
    have RG6 := Lib.hid (RG5.out.below hb6)
    have B6 := Lib.hid (B5.out.trans (hb6.mono B5.out.size))
    have RP6 := Lib.hid r6
    clear hb6 RW5 RX5 RG5 B5 r6
    go_wp2_with fail
    refine (eqL_any _ _ _ _ xs _ RX6.out.sl RP6.out.sl (by omega)).mono ?_
    rintro e w7 ⟨rfl, hb7⟩
    have N7 : Hid (w6.heap.size ≤ w7.heap.size) := hb7.size
    have RW7 := Lib.hid (RW6.out.below hb7)
    have RX7 := Lib.hid (RX6.out.below hb7)
    have RG7 := Lib.hid (RG6.out.below hb7)
    have B7 := Lib.hid (B6.out.trans (hb7.mono B6.out.size))
    clear hb7 RW6 RX6 RG6 RP6 B6
    go_wp2_with fail
    refine (markL_any _ _ _ xs.length _ 1 _ _ RX7.out (strs_strs xs) (by omega) (by omega)).mono ?_
    rintro e w8 ⟨rfl, r8, ht8⟩
    have N8 : Hid (w7.heap.size ≤ w8.heap.size) := ht8.size
    have RW8 := Lib.hid (RW7.out.turned ht8 (by have := N1.out; have := N2.out; have := N3.out; have := N4.out; have := N5.out; have := N6.out; have := N7.out; omega))
    have RG8 := Lib.hid (RG7.out.turned ht8 (by have := N1.out; have := N2.out; have := N3.out; have := N4.out; have := N5.out; have := N6.out; have := N7.out; omega))
    have B8 := Lib.hid (below_turned B7.out ht8 B7.out.size (by have := N1.out; have := N2.out; have := N3.out; have := N4.out; have := N5.out; have := N6.out; have := N7.out; omega))
    have RX8 := Lib.hid r8
    clear r8 ht8 RX7 B7 RW7 RG7
    have hk0 : ¬ (1 + (xs.length : Int) < 0) := by omega
    go_wp2_with fail
    refine (eqL_any _ _ _ _ os _ RG8.out.sl RW8.out.sl (by omega)).mono ?_
    rintro e w9 ⟨rfl, hb9⟩
    have N9 : Hid (w8.heap.size ≤ w9.heap.size) := hb9.size
    have RW9 := Lib.hid (RW8.out.below hb9)
    have RG9 := Lib.hid (RG8.out.below hb9)
    have B9 := Lib.hid (B8.out.trans (hb9.mono B8.out.size))
    clear hb9 RW8 RG8 RX8 B8
    clear hk0
    go_wp2_with fail
    refine (markL_any _ _ _ os.length _ 1 _ _ RG9.out (strs_strs os) (by omega) (by omega)).mono ?_
    rintro e w10 ⟨rfl, r10, ht10⟩
    have N10 : Hid (w9.heap.size ≤ w10.heap.size) := ht10.size
    have RW10 := Lib.hid (RW9.out.turned ht10 (by have := N1.out; have := N2.out; have := N3.out; have := N4.out; have := N5.out; have := N6.out; have := N7.out; have := N8.out; have := N9.out; omega))
    have B10 := Lib.hid (below_turned B9.out ht10 B9.out.size (by have := N1.out; have := N2.out; have := N3.out; have := N4.out; have := N5.out; have := N6.out; have := N7.out; have := N8.out; have := N9.out; omega))
    have RG10 := Lib.hid r10
    clear r10 ht10 RG9 B9 RW9
    go_wp2_with fail
    refine (heldStringS_any _ os.length _ 1 _ RG10.out.sl (by omega) (by omega)).mono ?_
    rintro e w11 ⟨rfl, hb11⟩
    have N11 : Hid (w10.heap.size ≤ w11.heap.size) := hb11.size
    have RW11 := Lib.hid (RW10.out.below hb11)
    have RG11 := Lib.hid (RG10.out.below hb11)
    have B11 := Lib.hid (B10.out.trans (hb11.mono B10.out.size))
    clear hb11 RW10 RG10 B10
    have hq0 : ¬ (1 + (os.length : Int) < 0) := by omega
    go_wp2_with fail
    refine (copyL_any A c xs _ (HA.out.below B11.out) hxl).mono ?_
    rintro e w12 ⟨AX, cX, rfl, r12, hb12⟩
    have N12 : Hid (w11.heap.size ≤ w12.heap.size) := hb12.size
    have RW12 := Lib.hid (RW11.out.below hb12)
    have RG12 := Lib.hid (RG11.out.below hb12)
    have B12 := Lib.hid (B11.out.trans (hb12.mono B11.out.size))
    have RX12 := Lib.hid r12
    clear hb12 RW11 RG11 B11 r12
    go_wp2_with fail
    refine (implSort_any _ _ xs _ RX12.out.sl hxl HXS.out).mono ?_
    rintro e w13 hp13
    obtain ⟨ps, ha, hm, _, hp13⟩ := hp13
    obtain rfl : os = ps := asc_unique HAS.out ha (fun y => (HMS.out y).trans (hm y).symm)
    clear ha hm
    obtain ⟨AH, cH, rfl, r13, hb13⟩ := made_of_own hp13
    clear hp13
    have N13 : Hid (w12.heap.size ≤ w13.heap.size) := hb13.size
    have RW13 := Lib.hid (RW12.out.below hb13)
    have RG13 := Lib.hid (RG12.out.below hb13)
    have B13 := Lib.hid (B12.out.trans (hb13.mono B12.out.size))
    have RH13 := Lib.hid r13
    clear hb13 RW12 RG12 RX12 B12 r13
    go_wp2_with fail
    refine (eqL_any _ _ _ _ os _ RH13.out.sl RW13.out.sl (by omega)).mono ?_
    rintro e w14 ⟨rfl, hb14⟩
    have N14 : Hid (w13.heap.size ≤ w14.heap.size) := hb14.size
    have RG14 := Lib.hid (RG13.out.below hb14)
    have B14 := Lib.hid (B13.out.trans (hb14.mono B13.out.size))
    clear hb14 RW13 RG13 RH13 B13
    go_wp2_with fail
    refine (heldStringS_any _ os.length _ 1 _ RG14.out.sl (by omega) (by omega)).mono ?_
    rintro e w15 ⟨rfl, hb15⟩
    have N15 : Hid (w14.heap.size ≤ w15.heap.size) := hb15.size
    have RG15 := Lib.hid (RG14.out.below hb15)
    have B15 := Lib.hid (B14.out.trans (hb15.mono B14.out.size))
    clear hb15 RG14 B14
    go_wp2_with fail
    go_ret
    exact ⟨rfl, B15.out⟩
end Go.Proofs.Ytgelkgkmkckinaa
