/-
  The law of names, walked: sorted names are ascending, united names are different, and all answers are the model's.
-/
import Derived.Test.YtgelkgkmkckinaaDrawM
import Derived.Test.YtgelkgkmkckinaaSortI
import Derived.Test.YtgelkgkmkckinaaIdx
import Derived.Test.YtgelkgkmkckinaaAsc
import Derived.Test.YtgelkgkmkckinaaNameI
import Derived.Test.YtgelkgkmkckinaaBig
namespace Go.Proofs.Ytgelkgkmkckinaa
open Go.RowKit

theorem made_of_own {xs : List ByteArray} {w w' : World} {en : Ending} (h : OwnL xs w en w') : MadeL xs.length (xs.map Value.string) w en w' := by
  obtain ⟨A, c, h1, h2, h3⟩ := h
  exact ⟨A, c, h1, Row.of h2, h3⟩
theorem asc_tells {os : List ByteArray} (h : Asc os) : ascL os = true := by
  refine asc_yes (k := os.length - 1) (fun j hj => ?_) (by omega)
  have hl : j + 1 < os.length := by omega
  rw [okAt_get hl]
  exact (lt_iff _ _).2 (List.pairwise_iff_getElem.1 h j (j + 1) (by omega) hl (by omega))
theorem idx_nodup {us : List ByteArray} (h : us.Nodup) {k : Nat} (hk : k < us.length) : Lib.idxOfS us us[k] = k := by
  refine idx_hit (fun j hj => ?_) hk rfl
  have hjl : j < us.length := by omega
  have := List.pairwise_iff_getElem.1 h j k hjl hk hj
  simpa [List.getD, hjl] using this
theorem implAscF (A : Option Addr) (c : Nat) (xs : List ByteArray) (w : World) (h : Sl w A (xs.map Value.string)) (hn : xs.length ≤ 1048576) : Calls Try.prog 17 #[.slice A xs.length c] w (Finds (ascL xs) w) :=
  (implAsc_any A c xs w h hn).mono fun _ _ ⟨h1, n, h2⟩ => ⟨h1, by rw [h2]; exact below_drewN (Below.refl _ _) n⟩
theorem specAscF (A : Option Addr) (c : Nat) (xs : List ByteArray) (w : World) (h : Sl w A (xs.map Value.string)) (hn : xs.length ≤ 1048576) : Calls Try.prog 23 #[.slice A xs.length c] w (Finds (ascL xs) w) :=
  (specAsc_any A c xs w h hn).mono fun _ _ ⟨h1, n, h2⟩ => ⟨h1, by rw [h2]; exact below_drewN (Below.refl _ _) n⟩
theorem specNameF (s : ByteArray) (w : World) (hs : s.size ≤ 1048576) : Calls Try.prog 22 #[.string s] w (Finds (nameB s) w) :=
  (specName_any s w hs).mono fun _ _ ⟨h1, h2⟩ => ⟨h1, by rw [← h2]; exact Below.refl _ _⟩

set_option maxHeartbeats 6400000 in
theorem names_law (A : Option Addr) (cap : Nat) (bs : List UInt8) (w : World) (hn : bs.length ≤ 9223372036854775807) (hsl : Sl w A (bcells bs)) :
    Calls Try.prog 3 #[.slice A bs.length cap] w (LawYes w) := by
  have HS := Lib.hid hsl
  clear hsl
  go_enter Try.func3, Try.ntmps3
  go_wp2_with fail
  refine (big_any A bs.length cap w).mono ?_
  rintro e w0 ⟨rfl, rfl⟩
  by_cases hbig : 1048576 < bs.length
  · go_wp2_with fail
    go_ret
    exact ⟨rfl, Below.refl _ _⟩
  · have hbd : decide ((1048576 : Int) < (bs.length : Int)) = false := by simp; omega
    rw [hbd]
    clear hbd
    have hcode : Code w A bs := ⟨HS.out, by omega⟩
    have HC := Lib.hid hcode
    clear hcode
    go_wp2_with fail
    refine (drawSort_any A cap bs w HC.out).mono ?_
    rintro e w1 ⟨ls, AL, cL, rfl, hl, hz, rL1, hb1⟩
    have N1 : Hid (w.heap.size ≤ w1.heap.size) := hb1.size
    have B1 := Lib.hid hb1
    have RL1 := Lib.hid rL1
    clear hb1 rL1
    have HLZ : Hid (∀ z ∈ ls, z.size ≤ 1048576) := fun z h => by have := hz z h; omega
    clear hz
    go_wp2_with fail
    refine (implSort_any _ _ ls _ RL1.out.sl (by omega) HLZ.out).mono ?_
    rintro e w2 hp2
    obtain ⟨os, ha, hm, hol, hp2⟩ := hp2
    have HAS := Lib.hid ha
    have HMS := Lib.hid hm
    clear ha hm
    obtain ⟨AS, cS, rfl, r2, hb2⟩ := made_of_own hp2
    clear hp2
    have N2 : Hid (w1.heap.size ≤ w2.heap.size) := hb2.size
    have RL2 := Lib.hid (RL1.out.below hb2)
    have B2 := Lib.hid (B1.out.trans (hb2.mono B1.out.size))
    have RS2 := Lib.hid r2
    clear hb2 RL1 B1 r2
    go_wp2_with fail
    refine (drawUnite_any A cap bs _ (HC.out.below B2.out)).mono ?_
    rintro e w3 ⟨ps, qs, AP, AQ, cP, cQ, rfl, hp, hq, rP3, rQ3, hb3⟩
    have hp1 : ps.length ≤ 5 := hp.1
    have hq1 : qs.length ≤ 5 := hq.1
    have HPZ : Hid (∀ z ∈ ps, z.size ≤ 1048576) := fun z h => by have := hp.2 z h; omega
    have HQZ : Hid (∀ z ∈ qs, z.size ≤ 1048576) := fun z h => by have := hq.2 z h; omega
    clear hp hq
    have N3 : Hid (w2.heap.size ≤ w3.heap.size) := hb3.size
    have RL3 := Lib.hid (RL2.out.below hb3)
    have RS3 := Lib.hid (RS2.out.below hb3)
    have B3 := Lib.hid (B2.out.trans (hb3.mono B2.out.size))
    have RP3 := Lib.hid rP3
    have RQ3 := Lib.hid rQ3
    clear hb3 RL2 RS2 B2 rP3 rQ3
    go_wp2_with fail
    refine (implUnite_any _ _ _ _ ps qs _ RP3.out.sl RQ3.out.sl (by omega) (by omega) HPZ.out HQZ.out).mono ?_
    rintro e w4 hp4
    have hul : (uq (uq [] ps) qs).length ≤ 10 := by
      have h1 := uq_len qs (uq [] ps)
      have h2 := uq_len ps []
      simp at h2
      omega
    have hun : (uq (uq [] ps) qs).Nodup := nodup_uq (nodup_uq List.nodup_nil)
    obtain ⟨us, hus⟩ : ∃ us, uq (uq [] ps) qs = us := ⟨_, rfl⟩
    rw [hus] at hp4 hul hun
    have HU := Lib.hid hus
    have HN := Lib.hid hun
    clear hus hun
    obtain ⟨AU, cU, rfl, r4, hb4⟩ := made_of_own hp4
    clear hp4
    have N4 : Hid (w3.heap.size ≤ w4.heap.size) := hb4.size
    have RL4 := Lib.hid (RL3.out.below hb4)
    have RS4 := Lib.hid (RS3.out.below hb4)
    have RP4 := Lib.hid (RP3.out.below hb4)
    have RQ4 := Lib.hid (RQ3.out.below hb4)
    have B4 := Lib.hid (B3.out.trans (hb4.mono B3.out.size))
    have RU4 := Lib.hid r4
    clear hb4 RL3 RS3 RP3 RQ3 B3 r4
    go_wp2_with fail
    refine (specSort_any _ _ ls _ RL4.out.sl (by omega)).mono ?_
    rintro e w5 hp5
    obtain ⟨ts, ha, hm, _, hp5⟩ := hp5
    obtain rfl : os = ts := asc_unique HAS.out ha (fun y => (HMS.out y).trans (hm y).symm)
    clear ha hm
    obtain ⟨AS2, cS2, rfl, r5, hb5⟩ := made_of_own hp5
    clear hp5
    have N5 : Hid (w4.heap.size ≤ w5.heap.size) := hb5.size
    have RS5 := Lib.hid (RS4.out.below hb5)
    have RP5 := Lib.hid (RP4.out.below hb5)
    have RQ5 := Lib.hid (RQ4.out.below hb5)
    have RU5 := Lib.hid (RU4.out.below hb5)
    have B5 := Lib.hid (B4.out.trans (hb5.mono B4.out.size))
    have RS25 := Lib.hid r5
    clear hb5 RL4 RS4 RP4 RQ4 RU4 B4 r5
    go_wp2_with fail
    refine (sameT_any _ _ _ _ os _ RS5.out.sl RS25.out.sl (by omega)).mono ?_
    rintro e w6 ⟨rfl, hb6⟩
    have N6 : Hid (w5.heap.size ≤ w6.heap.size) := hb6.size
    have RS6 := Lib.hid (RS5.out.below hb6)
    have RP6 := Lib.hid (RP5.out.below hb6)
    have RQ6 := Lib.hid (RQ5.out.below hb6)
    have RU6 := Lib.hid (RU5.out.below hb6)
    have B6 := Lib.hid (B5.out.trans (hb6.mono B5.out.size))
    clear hb6 RS5 RP5 RQ5 RU5 RS25 B5
    go_wp2_with fail
    refine (specUnite_any _ _ _ _ ps qs _ RP6.out.sl RQ6.out.sl (by omega) (by omega)).mono ?_
    rintro e w7 hp7
    rw [HU.out] at hp7
    obtain ⟨AU2, cU2, rfl, r7, hb7⟩ := made_of_own hp7
    clear hp7
    have N7 : Hid (w6.heap.size ≤ w7.heap.size) := hb7.size
    have RS7 := Lib.hid (RS6.out.below hb7)
    have RU7 := Lib.hid (RU6.out.below hb7)
    have B7 := Lib.hid (B6.out.trans (hb7.mono B6.out.size))
    have RU27 := Lib.hid r7
    clear hb7 RS6 RP6 RQ6 RU6 B6 r7
    go_wp2_with fail
    refine (sameT_any _ _ _ _ us _ RU7.out.sl RU27.out.sl (by omega)).mono ?_
    rintro e w8 ⟨rfl, hb8⟩
    have N8 : Hid (w7.heap.size ≤ w8.heap.size) := hb8.size
    have RS8 := Lib.hid (RS7.out.below hb8)
    have RU8 := Lib.hid (RU7.out.below hb8)
    have B8 := Lib.hid (B7.out.trans (hb8.mono B7.out.size))
    clear hb8 RS7 RU7 RU27 B7
    have hat := asc_tells HAS.out
    go_wp2_with fail
    refine (implAscF _ _ os _ RS8.out.sl (by omega)).mono ?_
    rintro e w9 ⟨rfl, hb9⟩
    have N9 : Hid (w8.heap.size ≤ w9.heap.size) := hb9.size
    have RU9 := Lib.hid (RU8.out.below hb9)
    have B9 := Lib.hid (B8.out.trans (hb9.mono B8.out.size))
    clear hb9 RS8 RU8 B8
    rw [hat]
    clear hat
    go_wp2_with fail
    go_loop [8] (fun i => ∃ k : Nat, k ≤ us.length ∧ i = .int .i64 k) (fun i => us.length - (intOf i).toNat)
    case atStart => exact ⟨0, Nat.zero_le _, rfl⟩
    case round =>
      obtain ⟨k, hk, rfl⟩ := hrel
      by_cases hlt : k < us.length
      · obtain ⟨g, c', hv⟩ := own_some RU9.out.1 (by omega)
        injection hv with e1 _ e3
        subst e1
        subst e3
        obtain ⟨ad, ead, hc⟩ := RU9.out.sl k (.string us[k]) (by simp [hlt])
        injection ead with ead
        subst ead
        rw [Addr.add_lit, Nat.zero_add] at hc
        have hI := idx_nodup HN.out hlt
        obtain ⟨x, hx⟩ : ∃ x, us[k] = x := ⟨_, rfl⟩
        rw [hx] at hc hI
        clear hx
        have HI := Lib.hid hI
        clear hI
        go_wp2_with fail
        refine (implIndex_any g _ us x _ RU9.out.sl (by omega)).mono ?_
        rintro e w' ⟨rfl, rfl⟩
        rw [HI.out]
        go_wp2_with fail
        go_round
        case rel => exact ⟨k + 1, hlt, by go_num⟩
        case measure => simp [intOf]; omega
      · clear hk RU9
        go_wp2_with fail
        refine (drawName_any A cap bs _ (HC.out.below B9.out)).mono ?_
        rintro e w10 ⟨s, rfl, hs, hb10⟩
        have N10 : Hid (w9.heap.size ≤ w10.heap.size) := hb10.size
        have B10 := Lib.hid (B9.out.trans (hb10.mono B9.out.size))
        clear hb10 B9
        go_wp2_with fail
        refine (drawAsc_any A cap bs _ (HC.out.below B10.out)).mono ?_
        rintro e w11 ⟨xs, AX, cX, rfl, hxl, _, rX11, hb11⟩
        have N11 : Hid (w10.heap.size ≤ w11.heap.size) := hb11.size
        have B11 := Lib.hid (B10.out.trans (hb11.mono B10.out.size))
        have RX11 := Lib.hid rX11
        clear hb11 B10 rX11
        go_wp2_with fail
        refine (implName_any s _ (by omega)).mono ?_
        rintro e w12 ⟨rfl, hb12⟩
        have N12 : Hid (w11.heap.size ≤ w12.heap.size) := hb12.size
        have RX12 := Lib.hid (RX11.out.below hb12)
        have B12 := Lib.hid (B11.out.trans (hb12.mono B11.out.size))
        clear hb12 RX11 B11
        go_wp2_with fail
        refine (specNameF s _ (by omega)).mono ?_
        rintro e w13 ⟨rfl, hb13⟩
        have N13 : Hid (w12.heap.size ≤ w13.heap.size) := hb13.size
        have RX13 := Lib.hid (RX12.out.below hb13)
        have B13 := Lib.hid (B12.out.trans (hb13.mono B12.out.size))
        clear hb13 RX12 B12
        go_wp2_with fail
        refine (implAscF _ _ xs _ RX13.out.sl (by omega)).mono ?_
        rintro e w14 ⟨rfl, hb14⟩
        have N14 : Hid (w13.heap.size ≤ w14.heap.size) := hb14.size
        have RX14 := Lib.hid (RX13.out.below hb14)
        have B14 := Lib.hid (B13.out.trans (hb14.mono B13.out.size))
        clear hb14 RX13 B13
        go_wp2_with fail
        refine (specAscF _ _ xs _ RX14.out.sl (by omega)).mono ?_
        rintro e w15 ⟨rfl, hb15⟩
        have N15 : Hid (w14.heap.size ≤ w15.heap.size) := hb15.size
        have RX15 := Lib.hid (RX14.out.below hb15)
        have B15 := Lib.hid (B14.out.trans (hb15.mono B14.out.size))
        clear hb15 RX14 B14
        go_wp2_with fail
        go_ret
        exact ⟨by simp, B15.out⟩
end Go.Proofs.Ytgelkgkmkckinaa
