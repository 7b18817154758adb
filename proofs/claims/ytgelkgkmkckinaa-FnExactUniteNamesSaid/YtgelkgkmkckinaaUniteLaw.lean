/-
  The law 'UniteNames answers as the model does, in memory of its own', walked.
-/
import Derived.Test.YtgelkgkmkckinaaUniteI
import Derived.Test.YtgelkgkmkckinaaRow
namespace Go.Proofs.Ytgelkgkmkckinaa
open Go.RowKit

theorem made_of_own {xs : List ByteArray} {w w' : World} {en : Ending} (h : OwnL xs w en w') : MadeL xs.length (xs.map Value.string) w en w' := by
  obtain ⟨A, c, h1, h2, h3⟩ := h
  exact ⟨A, c, h1, Row.of h2, h3⟩

set_option maxHeartbeats 6400000 in
theorem unite_law (A : Option Addr) (c : Nat) (xs : List ByteArray) (B : Option Addr) (d : Nat) (ys : List ByteArray) (w : World) (hA : Sl w A (xs.map Value.string)) (hn : xs.length ≤ 9223372036854775807) (hx : ∀ x ∈ xs, x.size ≤ 9223372036854775807)
    (hB : Sl w B (ys.map Value.string)) (hm : ys.length ≤ 9223372036854775807) (hy : ∀ y ∈ ys, y.size ≤ 9223372036854775807) :
    Calls Try.prog 7 #[.slice A xs.length c, .slice B ys.length d] w (LawYes w) := by
  have HA := Lib.hid hA
  have HB := Lib.hid hB
  clear hA hB
  go_enter Try.func7, Try.ntmps7
  go_wp2_with fail
  refine (szStringS_any A c xs _ _ HA.out hn hx (by omega) (by omega)).mono ?_
  rintro e w' ⟨r, rfl, hr1, hr2, hr3, rfl⟩
  by_cases hneg : r < 0
  · clear hr3
    go_wp2_with fail
    go_ret
    exact ⟨rfl, Below.refl _ _⟩
  · have hsum : r + xs.length + total xs = 1048576 := hr3 (by omega)
    have HX := Lib.hid hsum
    have hr0 : 0 ≤ r := by omega
    clear hr3 hsum hr2
    go_wp2_with fail
    refine (szStringS_any B d ys r _ HB.out hm hy hr0 (by omega)).mono ?_
    rintro e w' ⟨q, rfl, hq1, hq2, hq3, rfl⟩
    by_cases hneg2 : q < 0
    · clear hq3
      go_wp2_with fail
      go_ret
      exact ⟨rfl, Below.refl _ _⟩
    · have hsum2 : q + ys.length + total ys = r := hq3 (by omega)
      have hxl : xs.length ≤ 1048576 := by have := HX.out; omega
      have hyl : ys.length ≤ 1048576 := by have := HX.out; omega
      have hul : (uq (uq [] xs) ys).length ≤ 2097152 := by
        have h1 := uq_len ys (uq [] xs)
        have h2 := uq_len xs []
        simp at h2
        omega
      have HXS : Hid (∀ x ∈ xs, x.size ≤ 1048576) := fun x h => by have := mem_total h; have := HX.out; omega
      have HYS : Hid (∀ y ∈ ys, y.size ≤ 1048576) := fun y h => by have := mem_total h; have := HX.out; omega
      clear hq3 hsum2 hx hy
      go_wp2_with fail
      refine (copyL_any A c xs _ HA.out hxl).mono ?_
      rintro e w1 ⟨AT, cT, rfl, r1, hb1⟩
      have N1 : Hid (w.heap.size ≤ w1.heap.size) := hb1.size
      have B1 := Lib.hid hb1
      have RT1 := Lib.hid r1
      clear hb1 r1
      go_wp2_with fail
      refine (copyL_any B d ys _ (HB.out.below B1.out) hyl).mono ?_
      rintro e w2 ⟨AU, cU, rfl, r2, hb2⟩
      have N2 : Hid (w1.heap.size ≤ w2.heap.size) := hb2.size
      have RT2 := Lib.hid (RT1.out.below hb2)
      have B2 := Lib.hid (B1.out.trans (hb2.mono B1.out.size))
      have RU2 := Lib.hid r2
      clear hb2 RT1 B1 r2
      go_wp2_with fail
      refine (specUnite_any _ _ _ _ xs ys _ RT2.out.sl RU2.out.sl hxl hyl).mono ?_
      rintro e w3 hp3
      obtain ⟨AW, cW, rfl, r3, hb3⟩ := made_of_own hp3
      clear hp3
      have N3 : Hid (w2.heap.size ≤ w3.heap.size) := hb3.size
      have B3 := Lib.hid (B2.out.trans (hb3.mono B2.out.size))
      have RW3 := Lib.hid r3
      clear hb3 RT2 RU2 B2 r3
      obtain ⟨us, hus⟩ : ∃ us, uq (uq [] xs) ys = us := ⟨_, rfl⟩
      rw [hus] at hul RW3 ⊢
      have HU := Lib.hid hus
      clear hus
      go_wp2_with fail
      refine (copyL_any A c xs _ (HA.out.below B3.out) hxl).mono ?_
      rintro e w4 ⟨AX, cX, rfl, r4, hb4⟩
      have N4 : Hid (w3.heap.size ≤ w4.heap.size) := hb4.size
      have RW4 := Lib.hid (RW3.out.below hb4)
      have B4 := Lib.hid (B3.out.trans (hb4.mono B3.out.size))
      have RX4 := Lib.hid r4
      clear hb4 RW3 B3 r4
      go_wp2_with fail
      refine (copyL_any B d ys _ (HB.out.below B4.out) hyl).mono ?_
      rintro e w5 ⟨AY, cY, rfl, r5, hb5⟩
      have N5 : Hid (w4.heap.size ≤ w5.heap.size) := hb5.size
      have RW5 := Lib.hid (RW4.out.below hb5)
      have RX5 := Lib.hid (RX4.out.below hb5)
      have B5 := Lib.hid (B4.out.trans (hb5.mono B4.out.size))
      have RY5 := Lib.hid r5
      clear hb5 RW4 RX4 B4 r5
      go_wp2_with fail
      refine (implUnite_any _ _ _ _ xs ys _ RX5.out.sl RY5.out.sl hxl hyl HXS.out HYS.out).mono ?_
      rintro e w6 hp6
      obtain ⟨AG, cG, rfl, r6, hb6⟩ := made_of_own hp6
      clear hp6
      rw [HU.out] at r6 ⊢
      have N6 : Hid (w5.heap.size ≤ w6.heap.size) := hb6.size
      have RW6 := Lib.hid (RW5.out.below hb6)
      have RX6 := Lib.hid (RX5.out.below hb6)
      have RY6 := Lib.hid (RY5.out.below hb6)
      have B6 := Lib.hid (B5.out.trans (hb6.mono B5.out.size))
      have RG6 := Lib.hid r6
      clear hb6 RW5 RX5 RY5 B5 r6
      go_wp2_with fail
      refine (eqL_any _ _ _ _ us _ RG6.out.sl RW6.out.sl (by omega)).mono ?_
      rintro e w7 ⟨rfl, hb7⟩
      have N7 : Hid (w6.heap.size ≤ w7.heap.size) := hb7.size
      have RW7 := Lib.hid (RW6.out.below hb7)
      have RX7 := Lib.hid (RX6.out.below hb7)
      have RY7 := Lib.hid (RY6.out.below hb7)
      have RG7 := Lib.hid (RG6.out.below hb7)
      have B7 := Lib.hid (B6.out.trans (hb7.mono B6.out.size))
      clear hb7 RW6 RX6 RY6 RG6 B6
      go_wp2_with fail
      refine (copyL_any A c xs _ (HA.out.below B7.out) hxl).mono ?_
      rintro e w8 ⟨AP, cP, rfl, r8, hb8⟩
      have N8 : Hid (w7.heap.size ≤ w8.heap.size) := hb8.size
      have RW8 := Lib.hid (RW7.out.below hb8)
      have RX8 := Lib.hid (RX7.out.below hb8)
      have RY8 := Lib.hid (RY7.out.below hb8)
      have RG8 := Lib.hid (RG7.out.below hb8)
      have B8 := Lib.hid (B7.out.trans (hb8.mono B7.out.size))
      have RP8 := Lib.hid r8
      clear hb8 RW7 RX7 RY7 RG7 B7 r8
      go_wp2_with fail
      refine (eqL_any _ _ _ _ xs _ RX8.out.sl RP8.out.sl (by omega)).mono ?_
      rintro e w9 ⟨rfl, hb9⟩
      have N9 : Hid (w8.heap.size ≤ w9.heap.size) := hb9.size
      have RW9 := Lib.hid (RW8.out.below hb9)
      have RX9 := Lib.hid (RX8.out.below hb9)
      have RY9 := Lib.hid (RY8.out.below hb9)
      have RG9 := Lib.hid (RG8.out.below hb9)
      have B9 := Lib.hid (B8.out.trans (hb9.mono B8.out.size))
      clear hb9 RW8 RX8 RY8 RG8 RP8 B8
      go_wp2_with fail
      refine (copyL_any B d ys _ (HB.out.below B9.out) hyl).mono ?_
      rintro e w10 ⟨AQ, cQ, rfl, r10, hb10⟩
      have N10 : Hid (w9.heap.size ≤ w10.heap.size) := hb10.size
      have RW10 := Lib.hid (RW9.out.below hb10)
      have RX10 := Lib.hid (RX9.out.below hb10)
      have RY10 := Lib.hid (RY9.out.below hb10)
      have RG10 := Lib.hid (RG9.out.below hb10)
      have B10 := Lib.hid (B9.out.trans (hb10.mono B9.out.size))
      have RQ10 := Lib.hid r10
      clear hb10 RW9 RX9 RY9 RG9 B9 r10
      go_wp2_with fail
      refine (eqL_any _ _ _ _ ys _ RY10.out.sl RQ10.out.sl (by omega)).mono ?_
      rintro e w11 ⟨rfl, hb11⟩
      have N11 : Hid (w10.heap.size ≤ w11.heap.size) := hb11.size
      have RW11 := Lib.hid (RW10.out.below hb11)
      have RX11 := Lib.hid (RX10.out.below hb11)
      have RY11 := Lib.hid (RY10.out.below hb11)
      have RG11 := Lib.hid (RG10.out.below hb11)
      have B11 := Lib.hid (B10.out.trans (hb11.mono B10.out.size))
      clear hb11 RW10 RX10 RY10 RG10 RQ10 B10
      go_wp2_with fail
      refine (markL_any _ _ _ xs.length _ 1 _ _ RX11.out (strs_strs xs) (by omega) (by omega)).mono ?_
      rintro e w12 ⟨rfl, r12, ht12⟩
      have N12 : Hid (w11.heap.size ≤ w12.heap.size) := ht12.size
      have RW12 := Lib.hid (RW11.out.turned ht12 (by have := N1.out; have := N2.out; have := N3.out; have := N4.out; have := N5.out; have := N6.out; have := N7.out; have := N8.out; have := N9.out; have := N10.out; have := N11.out; omega))
      have RY12 := Lib.hid (RY11.out.turned ht12 (by have := N1.out; have := N2.out; have := N3.out; have := N4.out; have := N5.out; have := N6.out; have := N7.out; have := N8.out; have := N9.out; have := N10.out; have := N11.out; omega))
      have RG12 := Lib.hid (RG11.out.turned ht12 (by have := N1.out; have := N2.out; have := N3.out; have := N4.out; have := N5.out; have := N6.out; have := N7.out; have := N8.out; have := N9.out; have := N10.out; have := N11.out; omega))
      have B12 := Lib.hid (below_turned B11.out ht12 B11.out.size (by have := N1.out; have := N2.out; have := N3.out; have := N4.out; have := N5.out; have := N6.out; have := N7.out; have := N8.out; have := N9.out; have := N10.out; have := N11.out; omega))
      have RX12 := Lib.hid r12
      clear r12 ht12 RX11 B11 RW11 RY11 RG11
      go_wp2_with fail
      refine (markL_any _ _ _ ys.length _ (1 + (xs.length : Int)) _ _ RY12.out (strs_strs ys) (by omega) (by omega)).mono ?_
      rintro e w13 ⟨rfl, r13, ht13⟩
      have N13 : Hid (w12.heap.size ≤ w13.heap.size) := ht13.size
      have RW13 := Lib.hid (RW12.out.turned ht13 (by have := N1.out; have := N2.out; have := N3.out; have := N4.out; have := N5.out; have := N6.out; have := N7.out; have := N8.out; have := N9.out; have := N10.out; have := N11.out; have := N12.out; omega))
      have RG13 := Lib.hid (RG12.out.turned ht13 (by have := N1.out; have := N2.out; have := N3.out; have := N4.out; have := N5.out; have := N6.out; have := N7.out; have := N8.out; have := N9.out; have := N10.out; have := N11.out; have := N12.out; omega))
      have RX13 := Lib.hid (RX12.out.turned ht13 (by have := N1.out; have := N2.out; have := N3.out; have := N4.out; have := N5.out; have := N6.out; have := N7.out; have := N8.out; have := N9.out; have := N10.out; have := N11.out; have := N12.out; omega))
      have B13 := Lib.hid (below_turned B12.out ht13 B12.out.size (by have := N1.out; have := N2.out; have := N3.out; have := N4.out; have := N5.out; have := N6.out; have := N7.out; have := N8.out; have := N9.out; have := N10.out; have := N11.out; have := N12.out; omega))
      have RY13 := Lib.hid r13
      clear r13 ht13 RY12 B12 RW12 RG12 RX12
      have hk0 : ¬ (1 + (xs.length : Int) + (ys.length : Int) < 0) := by omega
      go_wp2_with fail
      refine (eqL_any _ _ _ _ us _ RG13.out.sl RW13.out.sl (by omega)).mono ?_
      rintro e w14 ⟨rfl, hb14⟩
      have N14 : Hid (w13.heap.size ≤ w14.heap.size) := hb14.size
      have RW14 := Lib.hid (RW13.out.below hb14)
      have RG14 := Lib.hid (RG13.out.below hb14)
      have B14 := Lib.hid (B13.out.trans (hb14.mono B13.out.size))
      clear hb14 RW13 RG13 RX13 RY13 B13
      clear hk0
      go_wp2_with fail
      refine (markL_any _ _ _ us.length _ 1 _ _ RG14.out (strs_strs us) (by omega) (by omega)).mono ?_
      rintro e w15 ⟨rfl, r15, ht15⟩
      have N15 : Hid (w14.heap.size ≤ w15.heap.size) := ht15.size
      have RW15 := Lib.hid (RW14.out.turned ht15 (by have := N1.out; have := N2.out; have := N3.out; have := N4.out; have := N5.out; have := N6.out; have := N7.out; have := N8.out; have := N9.out; have := N10.out; have := N11.out; have := N12.out; have := N13.out; have := N14.out; omega))
      have B15 := Lib.hid (below_turned B14.out ht15 B14.out.size (by have := N1.out; have := N2.out; have := N3.out; have := N4.out; have := N5.out; have := N6.out; have := N7.out; have := N8.out; have := N9.out; have := N10.out; have := N11.out; have := N12.out; have := N13.out; have := N14.out; omega))
      have RG15 := Lib.hid r15
      clear r15 ht15 RG14 B14 RW14
      go_wp2_with fail
      refine (heldStringS_any _ us.length _ 1 _ RG15.out.sl (by omega) (by omega)).mono ?_
      rintro e w16 ⟨rfl, hb16⟩
      have N16 : Hid (w15.heap.size ≤ w16.heap.size) := hb16.size
      have RW16 := Lib.hid (RW15.out.below hb16)
      have RG16 := Lib.hid (RG15.out.below hb16)
      have B16 := Lib.hid (B15.out.trans (hb16.mono B15.out.size))
      clear hb16 RW15 RG15 B15
      have hq0 : ¬ (1 + (us.length : Int) < 0) := by omega
      go_wp2_with fail
      refine (copyL_any A c xs _ (HA.out.below B16.out) hxl).mono ?_
      rintro e w17 ⟨AX, cX, rfl, r17, hb17⟩
      have N17 : Hid (w16.heap.size ≤ w17.heap.size) := hb17.size
      have RW17 := Lib.hid (RW16.out.below hb17)
      have RG17 := Lib.hid (RG16.out.below hb17)
      have B17 := Lib.hid (B16.out.trans (hb17.mono B16.out.size))
      have RX17 := Lib.hid r17
      clear hb17 RW16 RG16 B16 r17
      go_wp2_with fail
      refine (copyL_any B d ys _ (HB.out.below B17.out) hyl).mono ?_
      rintro e w18 ⟨AY, cY, rfl, r18, hb18⟩
      have N18 : Hid (w17.heap.size ≤ w18.heap.size) := hb18.size
      have RW18 := Lib.hid (RW17.out.below hb18)
      have RG18 := Lib.hid (RG17.out.below hb18)
      have RX18 := Lib.hid (RX17.out.below hb18)
      have B18 := Lib.hid (B17.out.trans (hb18.mono B17.out.size))
      have RY18 := Lib.hid r18
      clear hb18 RW17 RG17 RX17 B17 r18
      go_wp2_with fail
      refine (implUnite_any _ _ _ _ xs ys _ RX18.out.sl RY18.out.sl hxl hyl HXS.out HYS.out).mono ?_
      rintro e w19 hp19
      obtain ⟨AH, cH, rfl, r19, hb19⟩ := made_of_own hp19
      clear hp19
      rw [HU.out] at r19 ⊢
      have N19 : Hid (w18.heap.size ≤ w19.heap.size) := hb19.size
      have RW19 := Lib.hid (RW18.out.below hb19)
      have RG19 := Lib.hid (RG18.out.below hb19)
      have B19 := Lib.hid (B18.out.trans (hb19.mono B18.out.size))
      have RH19 := Lib.hid r19
      clear hb19 RW18 RG18 RX18 RY18 B18 r19
      go_wp2_with fail
      refine (eqL_any _ _ _ _ us _ RH19.out.sl RW19.out.sl (by omega)).mono ?_
      rintro e w20 ⟨rfl, hb20⟩
      have N20 : Hid (w19.heap.size ≤ w20.heap.size) := hb20.size
      have RG20 := Lib.hid (RG19.out.below hb20)
      have B20 := Lib.hid (B19.out.trans (hb20.mono B19.out.size))
      clear hb20 RW19 RG19 RH19 B19
      go_wp2_with fail
      refine (heldStringS_any _ us.length _ 1 _ RG20.out.sl (by omega) (by omega)).mono ?_
      rintro e w21 ⟨rfl, hb21⟩
      have N21 : Hid (w20.heap.size ≤ w21.heap.size) := hb21.size
      have RG21 := Lib.hid (RG20.out.below hb21)
      have B21 := Lib.hid (B20.out.trans (hb21.mono B20.out.size))
      clear hb21 RG20 B20
      go_wp2_with fail
      go_ret
      exact ⟨rfl, B21.out⟩
end Go.Proofs.Ytgelkgkmkckinaa
